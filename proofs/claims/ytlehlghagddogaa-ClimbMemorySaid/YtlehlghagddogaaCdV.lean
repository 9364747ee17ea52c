/- ClimbMemory holds: for every hierarchy and every number s the law answers true and its arguments read as they did. No condition beside the row's own. (genmm.py) -/
import Derived.Test.YtlehlghagddogaaCdC
import Derived.Test.YtlehlghagddogaaHrZ
import Derived.Test.YtlehlghagddogaaHrW
import Derived.SizedLaws
namespace Go.Proofs.Ytlehlghagddogaa.Cb
open Go.ChangeShapes Go.WideShapes Go.ChangeAt Go.RowKit Go.Deep Go.Extern Go.Shelf Hi

attribute [local go_sem] Oper.semAt_some

theorem Ans.fewM {h : Hr} {s : Int} {L : Nat → List (Nat × Int × Bool)} {X : List (Nat × Int × Bool)} {E : Int × List (Int × Int)} (a : Ans h s L X E) (hL : chk h = (0, []) → ∀ s, (L s).length ≤ 65536) : X.length ≤ 65536 := by
  rcases a with ⟨_, rfl, _⟩ | ⟨hn, rfl, _⟩
  · exact Nat.zero_le _
  · refine hL ?_ _
    by_cases g : chk h = (0, [])
    · exact g
    · exact absurd (Or.inl g) hn
/-- what is there while the lists a and c are written: b and d, the list of both, and those of a and c that are not yet appended to. -/
def MI (W0 : World) (L : Nat) (av bv cv dv : Value) (X Y : List (Nat × Int × Bool)) (i : Nat) (wr : World) : Prop :=
  (i = 0 → ∃ xs, wr.ownsRow W0.heap.size 38 3 av X.length xs) ∧ (i ≤ 1 → ∃ xs, wr.ownsRow W0.heap.size 38 3 cv Y.length xs) ∧ wr.ownsRow W0.heap.size 38 3 bv X.length (snv X) ∧ wr.ownsRow W0.heap.size 38 3 dv Y.length (snv Y) ∧ wr.heap[L]? = some (.cells #[av, cv] 29) ∧ Below W0.heap.size W0 wr
/-- a row that may be written lies apart. -/
def Apart (W0 : World) (L : Nat) (av bv cv dv : Value) : Prop := ∀ k, av.ownBlock = some k → W0.heap.size ≤ k ∧ k ≠ L ∧ bv.ownBlock ≠ some k ∧ dv.ownBlock ≠ some k ∧ cv.ownBlock ≠ some k
theorem ne_own {av bv : Value} (h : ∀ k, av.ownBlock = some k → bv.ownBlock ≠ some k) : bv.ownBlock = none ∨ bv.ownBlock ≠ av.ownBlock := by
  cases hb : bv.ownBlock with
  | none => exact Or.inl rfl
  | some k => exact Or.inr fun e => h k e.symm hb
theorem MI.grow {W0 wr w' : World} {L i j : Nat} {av bv cv dv rv ov : Value} {X Y : List (Nat × Int × Bool)} (h : MI W0 L av bv cv dv X Y i wr) (hg : wr.grownBy w' rv.ownBlock) (hA : Apart W0 L rv bv ov dv) (ha : j = 0 → ∃ xs, w'.ownsRow W0.heap.size 38 3 av X.length xs) (hc : j ≤ 1 → ∃ xs, w'.ownsRow W0.heap.size 38 3 cv Y.length xs) : MI W0 L av bv cv dv X Y j w' := by
  obtain ⟨_, _, h3, h4, h5, h6⟩ := h
  refine ⟨ha, hc, h3.kept hg (ne_own fun k hk => (hA k hk).2.2.1), h4.kept hg (ne_own fun k hk => (hA k hk).2.2.2.1), (hg.block L (some_lt h5) (fun e => (hA L e.symm).2.1 rfl)).trans h5, ?_⟩
  exact h6.trans ⟨hg.os, hg.tape, hg.output, hg.size, fun k hk => hg.block k (Nat.lt_of_lt_of_le hk h6.size) (fun e => by have := (hA k e.symm).1; omega)⟩
theorem MI.below {W0 wr w' : World} {L i : Nat} {av bv cv dv : Value} {X Y : List (Nat × Int × Bool)} (h : MI W0 L av bv cv dv X Y i wr) (hb : Below wr.heap.size wr w') : MI W0 L av bv cv dv X Y i w' := by
  obtain ⟨h1, h2, h3, h4, h5, h6⟩ := h
  exact ⟨fun e => (h1 e).imp fun _ g => own_upO g hb, fun e => (h2 e).imp fun _ g => own_upO g hb, own_upO h3 hb, own_upO h4 hb, (hb.block _ (some_lt h5)).trans h5, btrH' h6 hb⟩
/-- three cells of a row are written. -/
theorem store3 {wr : World} {B g m cap : Nat} {xs : List Value} (h : wr.ownsRow B 38 3 (.slice (some ⟨g, 0, none⟩) m cap) m xs) (j : Nat) (x y u : Value) : (∃ ys, (((wr.setCell ⟨g, j, none⟩ x).setCell ⟨g, j + 1, none⟩ y).setCell ⟨g, j + 2, none⟩ u).ownsRow B 38 3 (.slice (some ⟨g, 0, none⟩) m cap) m ys) ∧ wr.grownBy (((wr.setCell ⟨g, j, none⟩ x).setCell ⟨g, j + 1, none⟩ y).setCell ⟨g, j + 2, none⟩ u) (some g) := by
  obtain ⟨a1, a2⟩ := h.stored j x
  obtain ⟨b1, b2⟩ := a1.stored (j + 1) y
  obtain ⟨c1, c2⟩ := b1.stored (j + 2) u
  exact ⟨⟨_, c1⟩, ⟨c2.os.trans (b2.os.trans a2.os), c2.tape.trans (b2.tape.trans a2.tape), c2.output.trans (b2.output.trans a2.output), Nat.le_trans a2.size (Nat.le_trans b2.size c2.size), fun k hk hn => (c2.block k (Nat.lt_of_lt_of_le hk (Nat.le_trans a2.size b2.size)) hn).trans ((b2.block k (Nat.lt_of_lt_of_le hk a2.size) hn).trans (a2.block k hk hn))⟩⟩
theorem build_rows (a b : Option Addr) (m n k l : Nat) (wx : World) : (Instr.buildSlice 35 2 #[(0, .slice a m k), (1, .slice b n l)]).run Try.prog wx = .ok (.slice (some ⟨wx.heap.size, 0, none⟩) 2 2) (wx.alloc (.cells #[.slice a m k, .slice b n l] 29)) := by kernel_rfl
theorem infoSm : (Try.prog.info? 38).map (fun i => (i.zero, i.size, i.bytes)) = some (some (.agg #[.int .i64 0, .int .u64 0, .bool false]), 3, 24) := by kernel_rfl

set_option maxRecDepth 100000 in
set_option maxHeartbeats 8000000 in
theorem memory_aux (no uo ul wo dl : Option Addr) (nc uc ulc wc dlc : Nat) (h : Hr) (s : Int) (w : World) (hH : HasH w ⟨no, uo, ul, wo, dl, nc, uc, ulc, wc, dlc⟩ h) (hr : Hi.Reach h) :
    Calls Try.prog 3 #[hvl ⟨no, uo, ul, wo, dl, nc, uc, ulc, wc, dlc⟩ h, .int .i64 s] w fun e w' => e = .returned (.bool true) ∧ Below w.heap.size w w' := by
  have hb1 : h.up.length ≤ 1152921504606846976 := by have := hr.up; omega
  have hb2 : h.dn.length ≤ 1152921504606846976 := by have := hr.dn; omega
  have hb3 : h.node.length ≤ 1152921504606846976 := by have := hr.node; omega
  obtain ⟨z, hz⟩ : ∃ z, w.heap.size = z := ⟨_, rfl⟩
  obtain ⟨W0, hW0⟩ : ∃ W0, w.alloc (.cells #[.slice no h.node.length nc, .slice uo h.upF.length uc, .slice ul h.up.length ulc, .slice wo h.dnF.length wc, .slice dl h.dn.length dlc] 25) = W0 := ⟨_, rfl⟩
  have HQ : Hid (∀ wx, Below W0.heap.size W0 wx → (wx.cell? ⟨z, 0, none⟩ = some (.slice no h.node.length nc) ∧ wx.cell? ⟨z, 1, none⟩ = some (.slice uo h.upF.length uc) ∧ wx.cell? ⟨z, 2, none⟩ = some (.slice ul h.up.length ulc) ∧ wx.cell? ⟨z, 3, none⟩ = some (.slice wo h.dnF.length wc) ∧ wx.cell? ⟨z, 4, none⟩ = some (.slice dl h.dn.length dlc)) ∧ HasH wx ⟨no, uo, ul, wo, dl, nc, uc, ulc, wc, dlc⟩ h ∧ Below w.heap.size w wx) := fun wx hx => by
    have h1 : W0.heap[z]? = some (.cells #[.slice no h.node.length nc, .slice uo h.upF.length uc, .slice ul h.up.length ulc, .slice wo h.dnF.length wc, .slice dl h.dn.length dlc] 25) := by rw [← hW0, ← hz]; exact heap_newW _ _
    have h2 : Below w.heap.size w W0 := by rw [← hW0]; exact (Below.refl _ _).alloc (Nat.le_refl _) _
    have h3 := btrH' h2 hx
    exact ⟨five_cells ((hx.block _ (some_lt h1)).trans h1), hH.keep h3, h3⟩
  have HW0 : Hid (w.alloc (.cells #[.slice no h.node.length nc, .slice uo h.upF.length uc, .slice ul h.up.length ulc, .slice wo h.dnF.length wc, .slice dl h.dn.length dlc] 25) = W0) := hW0
  have HGR : Hid (∀ wx, Calls Try.prog 5 #[hvl ⟨no, uo, ul, wo, dl, nc, uc, ulc, wc, dlc⟩ h] wx fun e w' => e = .returned (.bool (greatB h)) ∧ Below wx.heap.size wx w') := fun wx => great20_calls _ h wx hb1 hb2
  have HTW : Hid (∀ wx, Below W0.heap.size W0 wx → Calls Try.prog 6 #[hvl ⟨no, uo, ul, wo, dl, nc, uc, ulc, wc, dlc⟩ h] wx fun e w' => ∃ u, e = .returned (hvl u h) ∧ HasH w' u h ∧ Below wx.heap.size wx w') := fun wx hx => twin_calls _ h wx (HQ.out wx hx).2.1 hr
  have HPU : Hid (∀ (u : HV) (wx : World), HasH wx u h → Calls Try.prog 7 #[hvl u h, .int .i64 s] wx fun e w' => ∃ (mo : Option Addr) (mc : Nat) (X : List (Nat × Int × Bool)) (E : Int × List (Int × Int)) (g : Value), Ans h s (upL h) X E ∧ e = .returned (.tuple #[.slice mo X.length mc, g]) ∧ w'.ownsRow wx.heap.size 38 3 (.slice mo X.length mc) X.length (snv X) ∧ IsTold w' E g ∧ Below wx.heap.size wx w') := fun u wx hx => up_any u h s wx hx hb1 hb2 hb3
  have HPD : Hid (∀ (u : HV) (wx : World), HasH wx u h → Calls Try.prog 8 #[hvl u h, .int .i64 s] wx fun e w' => ∃ (mo : Option Addr) (mc : Nat) (X : List (Nat × Int × Bool)) (E : Int × List (Int × Int)) (g : Value), Ans h s (dnL h) X E ∧ e = .returned (.tuple #[.slice mo X.length mc, g]) ∧ w'.ownsRow wx.heap.size 38 3 (.slice mo X.length mc) X.length (snv X) ∧ IsTold w' E g ∧ Below wx.heap.size wx w') := fun u wx hx => down_any u h s wx hx hb1 hb2 hb3
  have HRU : Hid (∀ wx, Below W0.heap.size W0 wx → Calls Try.prog 10 #[hvl ⟨no, uo, ul, wo, dl, nc, uc, ulc, wc, dlc⟩ h, .int .i64 s] wx fun e w' => UA h s (upL h) wx e w') := fun wx hx => docUp_calls _ h s wx (HQ.out wx hx).2.1 hb1 hb2 hb3
  have HRD : Hid (∀ wx, Below W0.heap.size W0 wx → Calls Try.prog 11 #[hvl ⟨no, uo, ul, wo, dl, nc, uc, ulc, wc, dlc⟩ h, .int .i64 s] wx fun e w' => UA h s (dnL h) wx e w') := fun wx hx => docDown_calls _ h s wx (HQ.out wx hx).2.1 hb1 hb2 hb3
  have HSM : Hid (∀ (u : HV) (wx : World), Below W0.heap.size W0 wx → HasH wx u h → Calls Try.prog 9 #[hvl u h, hvl ⟨no, uo, ul, wo, dl, nc, uc, ulc, wc, dlc⟩ h] wx fun e w' => e = .returned (.bool true) ∧ Below wx.heap.size wx w') := fun u wx hx hh => by
    have g := tSame_calls u ⟨no, uo, ul, wo, dl, nc, uc, ulc, wc, dlc⟩ h h wx hh (HQ.out wx hx).2.1 hr.short
    rw [decide_eq_true rfl] at g
    exact g
  have HLU : Hid (chk h = (0, []) → ∀ s, (upL h s).length ≤ 65536) := fun hc s => (Qy.up_bounds hc s).2
  have HLD : Hid (chk h = (0, []) → ∀ s, (dnL h s).length ≤ 65536) := fun hc s => (Qy.dn_bounds hc s).2
  obtain ⟨i0, hi9, hzz⟩ := Option.map_eq_some_iff.1 infoSm
  simp only [Prod.mk.injEq] at hzz
  have HI : Hid (Try.prog.info? 38 = some i0 ∧ i0.zero = some (.agg #[.int .i64 0, .int .u64 0, .bool false]) ∧ i0.size = 3 ∧ i0.bytes = 24) := ⟨hi9, hzz⟩
  clear hW0 hH hr hi9 hzz
  have eHV : hvl ⟨no, uo, ul, wo, dl, nc, uc, ulc, wc, dlc⟩ h = .agg #[.slice no h.node.length nc, .slice uo h.upF.length uc, .slice ul h.up.length ulc, .slice wo h.dnF.length wc, .slice dl h.dn.length dlc] := rfl
  rw [eHV] at HGR HTW HRU HRD HSM ⊢
  clear eHV
  go_enter Try.func3, Try.ntmps3
  go_wp2_with fail
  rw [HW0.out]
  refine (awake20_calls W0).mono ?_
  rintro e w1 ⟨rfl, hb⟩
  have HB1 : Hid (Below W0.heap.size W0 w1) := hb
  clear hb
  obtain ⟨c0, c1, c2, c3, c4⟩ := (HQ.out w1 HB1.out).1
  go_wp2_with fail
  refine (HGR.out w1).mono ?_
  rintro e w2 ⟨rfl, hb⟩
  have HB2 : Hid (Below W0.heap.size W0 w2) := btrH' HB1.out hb
  clear hb c0 c1 c2 c3 c4
  obtain ⟨c0, c1, c2, c3, c4⟩ := (HQ.out w2 HB2.out).1
  by_cases hgr : greatB h = true
  · rw [hgr]
    go_wp2
    go_ret
    exact ⟨rfl, (HQ.out w2 HB2.out).2.2⟩
  rw [Bool.not_eq_true] at hgr
  rw [hgr]
  go_wp2_with fail
  refine (HTW.out w2 HB2.out).mono ?_
  rintro e w3 ⟨u, rfl, hh, hb⟩
  obtain ⟨no', uo', ul', wo', dl', nc', uc', ulc', wc', dlc'⟩ := u
  obtain ⟨p, hp⟩ : ∃ p, w3.heap.size = p := ⟨_, rfl⟩
  obtain ⟨W4, hW4⟩ : ∃ W4, w3.alloc (.cells #[.slice no' h.node.length nc', .slice uo' h.upF.length uc', .slice ul' h.up.length ulc', .slice wo' h.dnF.length wc', .slice dl' h.dn.length dlc'] 25) = W4 := ⟨_, rfl⟩
  have HW4 : Hid (w3.alloc (.cells #[.slice no' h.node.length nc', .slice uo' h.upF.length uc', .slice ul' h.up.length ulc', .slice wo' h.dnF.length wc', .slice dl' h.dn.length dlc'] 25) = W4) := hW4
  have H4 : Hid (∀ wx, Below W4.heap.size W4 wx → (wx.cell? ⟨p, 0, none⟩ = some (.slice no' h.node.length nc') ∧ wx.cell? ⟨p, 1, none⟩ = some (.slice uo' h.upF.length uc') ∧ wx.cell? ⟨p, 2, none⟩ = some (.slice ul' h.up.length ulc') ∧ wx.cell? ⟨p, 3, none⟩ = some (.slice wo' h.dnF.length wc') ∧ wx.cell? ⟨p, 4, none⟩ = some (.slice dl' h.dn.length dlc')) ∧ HasH wx ⟨no', uo', ul', wo', dl', nc', uc', ulc', wc', dlc'⟩ h ∧ Below W0.heap.size W0 wx) := fun wx hx => by
    have g1 : W4.heap[p]? = some (.cells #[.slice no' h.node.length nc', .slice uo' h.upF.length uc', .slice ul' h.up.length ulc', .slice wo' h.dnF.length wc', .slice dl' h.dn.length dlc'] 25) := by rw [← hW4, ← hp]; exact heap_newW _ _
    have g2 : Below w3.heap.size w3 W4 := by rw [← hW4]; exact (Below.refl _ _).alloc (Nat.le_refl _) _
    have g3 := btrH' g2 hx
    exact ⟨five_cells ((hx.block _ (some_lt g1)).trans g1), hh.keep g3, btrH' HB2.out (btrH' hb g3)⟩
  have eUV : hvl ⟨no', uo', ul', wo', dl', nc', uc', ulc', wc', dlc'⟩ h = .agg #[.slice no' h.node.length nc', .slice uo' h.upF.length uc', .slice ul' h.up.length ulc', .slice wo' h.dnF.length wc', .slice dl' h.dn.length dlc'] := rfl
  have HPU' := HPU.out ⟨no', uo', ul', wo', dl', nc', uc', ulc', wc', dlc'⟩
  have HPD' := HPD.out ⟨no', uo', ul', wo', dl', nc', uc', ulc', wc', dlc'⟩
  have HSM' := HSM.out ⟨no', uo', ul', wo', dl', nc', uc', ulc', wc', dlc'⟩
  rw [eUV] at HPU' HPD' HSM' ⊢
  have HAU : Hid (type_of% HPU') := HPU'
  have HAD : Hid (type_of% HPD') := HPD'
  have HAS : Hid (type_of% HSM') := HSM'
  clear HPU' HPD' HSM' eUV HPU HPD HSM hh hb hW4 c0 c1 c2 c3 c4
  go_upto_region 6 with fail
  rw [HW4.out]
  clear HW4 hp
  obtain ⟨c0, c1, c2, c3, c4⟩ := (H4.out W4 (Below.refl _ _)).1
  go_wp2_with fail
  refine (HAU.out W4 (H4.out W4 (Below.refl _ _)).2.1).mono ?_
  rintro e w5 ⟨mo1, mc1, X1, E1, g1, hA, rfl, ho, ht, hb⟩
  have HB1' : Hid (Below W4.heap.size W4 w5) := hb
  have HO1 : Hid (w5.ownsRow W4.heap.size 38 3 (.slice mo1 X1.length mc1) X1.length (snv X1) ∧ W4.heap.size ≤ w5.heap.size) := ⟨ho, hb.size⟩
  have HN1 : Hid (Ans h s (upL h) X1 E1) := hA
  have HBB1 : Hid (Below W4.heap.size W4 w5) := hb
  clear hA ho ht hb c0 c1 c2 c3 c4
  obtain ⟨c0, c1, c2, c3, c4⟩ := (H4.out w5 HB1'.out).1
  go_wp2_with fail
  refine (HAU.out w5 (H4.out w5 HB1'.out).2.1).mono ?_
  rintro e w6 ⟨mo2, mc2, X2, E2, g2, hA, rfl, ho, ht, hb⟩
  have HB2' : Hid (Below W4.heap.size W4 w6) := btrH' HB1'.out hb
  have HO2 : Hid (w6.ownsRow w5.heap.size 38 3 (.slice mo2 X2.length mc2) X2.length (snv X2) ∧ w5.heap.size ≤ w6.heap.size) := ⟨ho, hb.size⟩
  have HN2 : Hid (Ans h s (upL h) X2 E2) := hA
  have HBB2 : Hid (Below w5.heap.size w5 w6) := hb
  clear hA ho ht hb c0 c1 c2 c3 c4
  obtain ⟨c0, c1, c2, c3, c4⟩ := (H4.out w6 HB2'.out).1
  go_wp2_with fail
  refine (HAD.out w6 (H4.out w6 HB2'.out).2.1).mono ?_
  rintro e w7 ⟨mo3, mc3, X3, E3, g3, hA, rfl, ho, ht, hb⟩
  have HB3' : Hid (Below W4.heap.size W4 w7) := btrH' HB2'.out hb
  have HO3 : Hid (w7.ownsRow w6.heap.size 38 3 (.slice mo3 X3.length mc3) X3.length (snv X3) ∧ w6.heap.size ≤ w7.heap.size) := ⟨ho, hb.size⟩
  have HN3 : Hid (Ans h s (dnL h) X3 E3) := hA
  have HBB3 : Hid (Below w6.heap.size w6 w7) := hb
  clear hA ho ht hb c0 c1 c2 c3 c4
  obtain ⟨c0, c1, c2, c3, c4⟩ := (H4.out w7 HB3'.out).1
  go_wp2_with fail
  refine (HAD.out w7 (H4.out w7 HB3'.out).2.1).mono ?_
  rintro e w8 ⟨mo4, mc4, X4, E4, g4, hA, rfl, ho, ht, hb⟩
  have HB4' : Hid (Below W4.heap.size W4 w8) := btrH' HB3'.out hb
  have HO4 : Hid (w8.ownsRow w7.heap.size 38 3 (.slice mo4 X4.length mc4) X4.length (snv X4) ∧ w7.heap.size ≤ w8.heap.size) := ⟨ho, hb.size⟩
  have HN4 : Hid (Ans h s (dnL h) X4 E4) := hA
  have HBB4 : Hid (Below w7.heap.size w7 w8) := hb
  clear hA ho ht hb c0 c1 c2 c3 c4
  obtain ⟨ea, _⟩ := HN2.out.one HN1.out
  obtain ⟨ec, _⟩ := HN4.out.one HN3.out
  rw [ea] at HO2 ⊢
  rw [ec] at HO4 ⊢
  clear ea ec
  have HB0' : Hid (Below W0.heap.size W0 w8) := (H4.out w8 HB4'.out).2.2
  obtain ⟨c0, c1, c2, c3, c4⟩ := (H4.out w8 HB4'.out).1
  obtain ⟨e0, e1, e2, e3, e4⟩ := (HQ.out w8 HB0'.out).1
  go_wp2_with fail
  refine (HAS.out w8 HB0'.out (H4.out w8 HB4'.out).2.1).mono ?_
  rintro e w9 ⟨rfl, hb9⟩
  obtain ⟨L, hL⟩ : ∃ L, w9.heap.size = L := ⟨_, rfl⟩
  obtain ⟨W10, hW10⟩ : ∃ W10, w9.alloc (.cells #[.slice mo1 X1.length mc1, .slice mo3 X3.length mc3] 29) = W10 := ⟨_, rfl⟩
  have HW10 : Hid (w9.alloc (.cells #[.slice mo1 X1.length mc1, .slice mo3 X3.length mc3] 29) = W10) := hW10
  have HW4W : Hid (W0.heap.size ≤ W4.heap.size) := (H4.out W4 (Below.refl _ _)).2.2.size
  have HMI : Hid (MI W0 L (.slice mo1 X1.length mc1) (.slice mo2 X1.length mc2) (.slice mo3 X3.length mc3) (.slice mo4 X3.length mc4) X1 X3 0 W10) := by
    have g1 : W10.heap[L]? = some (.cells #[.slice mo1 X1.length mc1, .slice mo3 X3.length mc3] 29) := by rw [← hW10, ← hL]; exact heap_newW _ _
    have g2 : Below w9.heap.size w9 W10 := by rw [← hW10]; exact (Below.refl _ _).alloc (Nat.le_refl _) _
    have b8 := btrH' hb9 g2
    have b7 := btrH' HBB4.out b8
    have b6 := btrH' HBB3.out b7
    have b5 := btrH' HBB2.out b6
    have s1 := HO1.out.2
    have s2 := HO2.out.2
    have s3 := HO3.out.2
    have s4 := HW4W.out
    exact ⟨fun _ => ⟨_, own_upO (own_lowO HO1.out.1 s4) b5⟩, fun _ => ⟨_, own_upO (own_lowO HO3.out.1 (by omega)) b7⟩, own_upO (own_lowO HO2.out.1 (by omega)) b6, own_upO (own_lowO HO4.out.1 (by omega)) b8, g1, btrH' HB0'.out b8⟩
  have HAP : Hid (Apart W0 L (.slice mo1 X1.length mc1) (.slice mo2 X1.length mc2) (.slice mo3 X3.length mc3) (.slice mo4 X3.length mc4) ∧ Apart W0 L (.slice mo3 X3.length mc3) (.slice mo2 X1.length mc2) (.slice mo1 X1.length mc1) (.slice mo4 X3.length mc4)) := by
    have s0 := HW4W.out
    have s1 := HO1.out.2
    have s2 := HO2.out.2
    have s3 := HO3.out.2
    have s4 := HO4.out.2
    have s9 := hb9.size
    have l1 := HO1.out.1.lt
    have l2 := HO2.out.1.lt
    have l3 := HO3.out.1.lt
    have l4 := HO4.out.1.lt
    refine ⟨fun k hk => ?_, fun k hk => ?_⟩
    · have q1 := l1 k hk
      refine ⟨by omega, by omega, fun e => ?_, fun e => ?_, fun e => ?_⟩
      · have := l2 k e; omega
      · have := l4 k e; omega
      · have := l3 k e; omega
    · have q1 := l3 k hk
      refine ⟨by omega, by omega, fun e => ?_, fun e => ?_, fun e => ?_⟩
      · have := l2 k e; omega
      · have := l4 k e; omega
      · have := l1 k e; omega
  have hX1 : X1.length ≤ 65536 := HN1.out.fewM HLU.out
  have hX3 : X3.length ≤ 65536 := HN3.out.fewM HLD.out
  have hbr := build_rows mo1 mo3 X1.length X3.length mc1 mc3
  clear hb9 hW10 c0 c1 c2 c3 c4 e0 e1 e2 e3 e4 HO1 HO2 HO3 HO4 HBB1 HBB2 HBB3 HBB4
  go_wp2_with fail
  rw [HW10.out]
  clear HW10 hbr hL
  go_loopw [60] (fun iv wr => ∃ i : Nat, i ≤ 2 ∧ iv = .int .i64 i ∧ Hid (MI W0 L (.slice mo1 X1.length mc1) (.slice mo2 X1.length mc2) (.slice mo3 X3.length mc3) (.slice mo4 X3.length mc4) X1 X3 i wr)) (fun iv _ => 2 - (intOf iv).toNat)
  case atStart => exact ⟨0, by omega, rfl, HMI.out⟩
  case round =>
    obtain ⟨i, hi, rfl, HM⟩ := hrel
    rcases (show i = 0 ∨ i = 1 ∨ i = 2 by omega) with rfl | rfl | rfl
    · have cL : wr.cell? ⟨L, 0, none⟩ = some (.slice mo1 X1.length mc1) := by have g := HM.out.2.2.2.2.1; simp [World.cell?, g]
      have hLl : L < wr.heap.size := some_lt HM.out.2.2.2.2.1
      have i2 : ((0 : Nat) : Int) = 0 := rfl
      go_wp2_with fail
      go_loopw [66] (fun iv wr => ∃ k : Nat, k ≤ X1.length ∧ iv = .int .i64 k ∧ Hid (MI W0 L (.slice mo1 X1.length mc1) (.slice mo2 X1.length mc2) (.slice mo3 X3.length mc3) (.slice mo4 X3.length mc4) X1 X3 0 wr)) (fun iv _ => X1.length - (intOf iv).toNat)
      case atStart => exact ⟨0, Nat.zero_le _, rfl, HM.out⟩
      case round =>
        obtain ⟨j, hj, rfl, HM2⟩ := hrel
        rcases Nat.lt_or_eq_of_le hj with h1 | h1
        · obtain ⟨xs, hxs⟩ := (HM2.out.1 rfl)
          obtain ⟨g, hg⟩ : ∃ g, mo1 = some ⟨g, 0, none⟩ := by
            rcases hxs.2 with ⟨e1, _⟩ | ⟨g, cap, cur, e1, _⟩
            · simp at e1; omega
            · simp at e1; exact ⟨g, e1.1⟩
          have hlen : xs.length = X1.length * 3 := hxs.1
          obtain ⟨v0, hv0⟩ : ∃ v, xs[j * 3]? = some v := ⟨_, List.getElem?_eq_getElem (by omega)⟩
          obtain ⟨v1, hv1⟩ : ∃ v, xs[j * 3 + 1]? = some v := ⟨_, List.getElem?_eq_getElem (by omega)⟩
          obtain ⟨v2, hv2⟩ : ∃ v, xs[j * 3 + 2]? = some v := ⟨_, List.getElem?_eq_getElem (by omega)⟩
          have HMS : Hid (MI W0 L (.slice mo1 X1.length mc1) (.slice mo2 X1.length mc2) (.slice mo3 X3.length mc3) (.slice mo4 X3.length mc4) X1 X3 0 wr) := HM2.out
          have HAPS : Hid (type_of% HAP.out) := HAP.out
          subst hg
          have k0 := (hxs.cellAt (j * 3) (by omega)).trans hv0
          have k1 := (hxs.cellAt (j * 3 + 1) (by omega)).trans hv1
          have k2 := (hxs.cellAt (j * 3 + 2) (by omega)).trans hv2
          have f0 := hxs.frozenAt (j * 3)
          have f1 := hxs.frozenAt (j * 3 + 1)
          have f2 := hxs.frozenAt (j * 3 + 2)
          have HST : Hid (type_of% (store3 hxs (j * 3) (.int .i64 (-1)) (.int .u64 0) (.bool false))) := store3 hxs (j * 3) (.int .i64 (-1)) (.int .u64 0) (.bool false)
          have HM3 : Hid (MI W0 L (.slice (some ⟨g, 0, none⟩) X1.length mc1) (.slice mo2 X1.length mc2) (.slice mo3 X3.length mc3) (.slice mo4 X3.length mc4) X1 X3 0 (((wr.setCell ⟨g, j * 3, none⟩ (.int .i64 (-1))).setCell ⟨g, j * 3 + 1, none⟩ (.int .u64 0)).setCell ⟨g, j * 3 + 2, none⟩ (.bool false))) := MI.grow (rv := .slice (some ⟨g, 0, none⟩) X1.length mc1) (ov := .slice mo3 X3.length mc3) HMS.out HST.out.2 HAP.out.1 (fun _ => HST.out.1) (fun _ => (HMS.out.2.1 (by omega)).imp fun _ q => q.kept HST.out.2 (ne_own (av := (.slice (some ⟨g, 0, none⟩) X1.length mc1)) fun k hk => (HAP.out.1 k hk).2.2.2.2))
          have hgl : g < wr.heap.size := (hxs.lt g rfl).2
          have q2 : (0 : Int) ≤ (j : Int) := by omega
          have q3 : (j : Int) < (X1.length : Int) := by omega
          have q6 : decide ((j : Int) < (X1.length : Int)) = true := by simp; omega
          clear hxs hv0 hv1 hv2 hlen HST
          go_wp2
          go_roundw
          case rel => exact ⟨j + 1, by omega, by go_num, HM3.out⟩
          case measure => simp [intOf]; omega
        · have q6 : decide ((j : Int) < (X1.length : Int)) = false := by simp; omega
          have q6n : decide (j < X1.length) = false := by simp; omega
          obtain ⟨xs, hxs⟩ := (HM2.out.1 rfl)
          have HXS : Hid (wr.ownsRow W0.heap.size 38 3 (.slice mo1 X1.length mc1) X1.length xs) := hxs
          have HW9 : Hid (W0.heap.size ≤ wr.heap.size) := HM2.out.2.2.2.2.2.size
          have q7 : IntKind.i64.wrap ((X1.length : Int) + 2) = (X1.length : Int) + 2 := by rw [IntKind.wrap_i64]; omega
          have q8 : (((X1.length : Int) + 2) != ((X1.length : Int) + 2)) = false := by simp
          clear h1 hj hxs
          go_wp2_with (at_builtin; refine wpList_append_own _ rfl _ _ 29 rfl W0.heap.size 38 i0 (.agg #[.int .i64 0, .int .u64 0, .bool false]) 3 24 Try.underlying29 HI.out.1 HI.out.2.1 HI.out.2.2.1 HI.out.2.2.2 rfl (by decide) _ X1.length xs rfl (HXS.out.alloc _) ⟨wr.heap.size, 0, none⟩ 2 2 (snv [(0, 0, false), (0, 0, false)]) rfl rfl (new_cells wr (snv [(0, 0, false), (0, 0, false)]) 38) (snv_one _) (by unfold maxLen; omega) (by omega) (by have := HW9.out; simp; omega) ?_; intro v5 w5 hown5 hgr5 _; have HGR5 : Hid (wr.grownBy w5 (Value.ownBlock (.slice mo1 X1.length mc1))) := ⟨hgr5.os, hgr5.tape, hgr5.output, Nat.le_trans (by simp) hgr5.size, fun k hk hn => (hgr5.block k (by simp; omega) hn).trans (Below.heap_alloc _ _ _ hk)⟩; obtain ⟨po, pc, hv5⟩ := own_slice hown5; clear hown5 hgr5; subst hv5)
          have HM4 : Hid (MI W0 L (.slice mo1 X1.length mc1) (.slice mo2 X1.length mc2) (.slice mo3 X3.length mc3) (.slice mo4 X3.length mc4) X1 X3 1 w5) := MI.grow (rv := .slice mo1 X1.length mc1) (ov := .slice mo3 X3.length mc3) HM2.out HGR5.out HAP.out.1 (fun e => absurd e (by decide)) (fun _ => (HM2.out.2.1 (by omega)).imp fun _ q => q.kept HGR5.out (ne_own (av := (.slice mo1 X1.length mc1)) fun k hk => (HAP.out.1 k hk).2.2.2.2))
          exact ⟨⟨1, by omega, rfl, HM4.out⟩, by simp only [intOf]; omega⟩
    · have cL : wr.cell? ⟨L, 1, none⟩ = some (.slice mo3 X3.length mc3) := by have g := HM.out.2.2.2.2.1; simp [World.cell?, g]
      have hLl : L < wr.heap.size := some_lt HM.out.2.2.2.2.1
      have i2 : ((1 : Nat) : Int) = 1 := rfl
      go_wp2_with fail
      go_loopw [66] (fun iv wr => ∃ k : Nat, k ≤ X3.length ∧ iv = .int .i64 k ∧ Hid (MI W0 L (.slice mo1 X1.length mc1) (.slice mo2 X1.length mc2) (.slice mo3 X3.length mc3) (.slice mo4 X3.length mc4) X1 X3 1 wr)) (fun iv _ => X3.length - (intOf iv).toNat)
      case atStart => exact ⟨0, Nat.zero_le _, rfl, HM.out⟩
      case round =>
        obtain ⟨j, hj, rfl, HM2⟩ := hrel
        rcases Nat.lt_or_eq_of_le hj with h1 | h1
        · obtain ⟨xs, hxs⟩ := (HM2.out.2.1 (Nat.le_refl _))
          obtain ⟨g, hg⟩ : ∃ g, mo3 = some ⟨g, 0, none⟩ := by
            rcases hxs.2 with ⟨e1, _⟩ | ⟨g, cap, cur, e1, _⟩
            · simp at e1; omega
            · simp at e1; exact ⟨g, e1.1⟩
          have hlen : xs.length = X3.length * 3 := hxs.1
          obtain ⟨v0, hv0⟩ : ∃ v, xs[j * 3]? = some v := ⟨_, List.getElem?_eq_getElem (by omega)⟩
          obtain ⟨v1, hv1⟩ : ∃ v, xs[j * 3 + 1]? = some v := ⟨_, List.getElem?_eq_getElem (by omega)⟩
          obtain ⟨v2, hv2⟩ : ∃ v, xs[j * 3 + 2]? = some v := ⟨_, List.getElem?_eq_getElem (by omega)⟩
          have HMS : Hid (MI W0 L (.slice mo1 X1.length mc1) (.slice mo2 X1.length mc2) (.slice mo3 X3.length mc3) (.slice mo4 X3.length mc4) X1 X3 1 wr) := HM2.out
          have HAPS : Hid (type_of% HAP.out) := HAP.out
          subst hg
          have k0 := (hxs.cellAt (j * 3) (by omega)).trans hv0
          have k1 := (hxs.cellAt (j * 3 + 1) (by omega)).trans hv1
          have k2 := (hxs.cellAt (j * 3 + 2) (by omega)).trans hv2
          have f0 := hxs.frozenAt (j * 3)
          have f1 := hxs.frozenAt (j * 3 + 1)
          have f2 := hxs.frozenAt (j * 3 + 2)
          have HST : Hid (type_of% (store3 hxs (j * 3) (.int .i64 (-1)) (.int .u64 0) (.bool false))) := store3 hxs (j * 3) (.int .i64 (-1)) (.int .u64 0) (.bool false)
          have HM3 : Hid (MI W0 L (.slice mo1 X1.length mc1) (.slice mo2 X1.length mc2) (.slice (some ⟨g, 0, none⟩) X3.length mc3) (.slice mo4 X3.length mc4) X1 X3 1 (((wr.setCell ⟨g, j * 3, none⟩ (.int .i64 (-1))).setCell ⟨g, j * 3 + 1, none⟩ (.int .u64 0)).setCell ⟨g, j * 3 + 2, none⟩ (.bool false))) := MI.grow (rv := .slice (some ⟨g, 0, none⟩) X3.length mc3) (ov := .slice mo1 X1.length mc1) HMS.out HST.out.2 HAP.out.2 (fun e => absurd e (by decide)) (fun _ => HST.out.1)
          have hgl : g < wr.heap.size := (hxs.lt g rfl).2
          have q2 : (0 : Int) ≤ (j : Int) := by omega
          have q3 : (j : Int) < (X3.length : Int) := by omega
          have q6 : decide ((j : Int) < (X3.length : Int)) = true := by simp; omega
          clear hxs hv0 hv1 hv2 hlen HST
          go_wp2
          go_roundw
          case rel => exact ⟨j + 1, by omega, by go_num, HM3.out⟩
          case measure => simp [intOf]; omega
        · have q6 : decide ((j : Int) < (X3.length : Int)) = false := by simp; omega
          have q6n : decide (j < X3.length) = false := by simp; omega
          obtain ⟨xs, hxs⟩ := (HM2.out.2.1 (Nat.le_refl _))
          have HXS : Hid (wr.ownsRow W0.heap.size 38 3 (.slice mo3 X3.length mc3) X3.length xs) := hxs
          have HW9 : Hid (W0.heap.size ≤ wr.heap.size) := HM2.out.2.2.2.2.2.size
          have q7 : IntKind.i64.wrap ((X3.length : Int) + 2) = (X3.length : Int) + 2 := by rw [IntKind.wrap_i64]; omega
          have q8 : (((X3.length : Int) + 2) != ((X3.length : Int) + 2)) = false := by simp
          clear h1 hj hxs
          go_wp2_with (at_builtin; refine wpList_append_own _ rfl _ _ 29 rfl W0.heap.size 38 i0 (.agg #[.int .i64 0, .int .u64 0, .bool false]) 3 24 Try.underlying29 HI.out.1 HI.out.2.1 HI.out.2.2.1 HI.out.2.2.2 rfl (by decide) _ X3.length xs rfl (HXS.out.alloc _) ⟨wr.heap.size, 0, none⟩ 2 2 (snv [(0, 0, false), (0, 0, false)]) rfl rfl (new_cells wr (snv [(0, 0, false), (0, 0, false)]) 38) (snv_one _) (by unfold maxLen; omega) (by omega) (by have := HW9.out; simp; omega) ?_; intro v5 w5 hown5 hgr5 _; have HGR5 : Hid (wr.grownBy w5 (Value.ownBlock (.slice mo3 X3.length mc3))) := ⟨hgr5.os, hgr5.tape, hgr5.output, Nat.le_trans (by simp) hgr5.size, fun k hk hn => (hgr5.block k (by simp; omega) hn).trans (Below.heap_alloc _ _ _ hk)⟩; obtain ⟨po, pc, hv5⟩ := own_slice hown5; clear hown5 hgr5; subst hv5)
          have HM4 : Hid (MI W0 L (.slice mo1 X1.length mc1) (.slice mo2 X1.length mc2) (.slice mo3 X3.length mc3) (.slice mo4 X3.length mc4) X1 X3 2 w5) := MI.grow (rv := .slice mo3 X3.length mc3) (ov := .slice mo1 X1.length mc1) HM2.out HGR5.out HAP.out.2 (fun e => absurd e (by decide)) (fun e => absurd e (by decide))
          exact ⟨⟨2, by omega, rfl, HM4.out⟩, by simp only [intOf]; omega⟩
    · obtain ⟨_, _, hbo, hdo, _, hBe⟩ := HM.out
      have HBW : Hid (Below W0.heap.size W0 wr) := hBe
      have HBO : Hid (∀ wx, Below wr.heap.size wr wx → wx.ownsRow W0.heap.size 38 3 (.slice mo2 X1.length mc2) X1.length (snv X1) ∧ wx.ownsRow W0.heap.size 38 3 (.slice mo4 X3.length mc4) X3.length (snv X3) ∧ Below W0.heap.size W0 wx) := fun wx hx => ⟨own_upO hbo hx, own_upO hdo hx, btrH' hBe hx⟩
      clear hbo hdo hBe
      obtain ⟨c0, c1, c2, c3, c4⟩ := (HQ.out wr HBW.out).1
      go_wp2_with fail
      refine (HRU.out wr HBW.out).mono ?_
      rintro e v1 ⟨X', E', hA', po1, pc1, lo1, lc1, rfl, ho, hp1, hb⟩
      obtain ⟨e1, e2⟩ := hA'.one HN1.out
      subst e1
      subst e2
      have hbv : Below v1.heap.size v1 (v1.alloc (.cells #[.int .i64 E'.1, .slice lo1 E'.2.length lc1] 42)) := (Below.refl _ _).alloc (Nat.le_refl _) _
      obtain ⟨V1, hV1⟩ : ∃ V1, v1.alloc (.cells #[.int .i64 E'.1, .slice lo1 E'.2.length lc1] 42) = V1 := ⟨_, rfl⟩
      have HV1 : Hid (v1.alloc (.cells #[.int .i64 E'.1, .slice lo1 E'.2.length lc1] 42) = V1) := hV1
      rw [hV1] at hbv
      have HF1 : Hid (∀ wx, Below V1.heap.size V1 wx → wx.ownsRow wr.heap.size 49 3 (.slice po1 X'.length pc1) X'.length (snv X') ∧ Below wr.heap.size wr wx) := fun wx hx => ⟨own_upO ho (btrH' hbv hx), btrH' hb (btrH' hbv hx)⟩
      clear hA' ho hp1 hb hbv hV1 c0 c1 c2 c3 c4
      go_upto_region 25 with fail
      rw [HV1.out]
      clear HV1
      obtain ⟨c0, c1, c2, c3, c4⟩ := (HQ.out V1 (HBO.out V1 (HF1.out V1 (Below.refl _ _)).2).2.2).1
      go_wp2_with fail
      refine (HRD.out V1 (HBO.out V1 (HF1.out V1 (Below.refl _ _)).2).2.2).mono ?_
      rintro e v2 ⟨Y', F', hA', po2, pc2, lo2, lc2, rfl, ho, hp2, hb⟩
      obtain ⟨e1, e2⟩ := hA'.one HN3.out
      subst e1
      subst e2
      have hbv : Below v2.heap.size v2 (v2.alloc (.cells #[.int .i64 F'.1, .slice lo2 F'.2.length lc2] 42)) := (Below.refl _ _).alloc (Nat.le_refl _) _
      obtain ⟨V2, hV2⟩ : ∃ V2, v2.alloc (.cells #[.int .i64 F'.1, .slice lo2 F'.2.length lc2] 42) = V2 := ⟨_, rfl⟩
      have HV2 : Hid (v2.alloc (.cells #[.int .i64 F'.1, .slice lo2 F'.2.length lc2] 42) = V2) := hV2
      rw [hV2] at hbv
      have HF2 : Hid (∀ wx, Below V2.heap.size V2 wx → wx.ownsRow V1.heap.size 49 3 (.slice po2 Y'.length pc2) Y'.length (snv Y') ∧ wx.ownsRow wr.heap.size 49 3 (.slice po1 X'.length pc1) X'.length (snv X') ∧ Below wr.heap.size wr wx) := fun wx hx => ⟨own_upO ho (btrH' hbv hx), HF1.out wx (btrH' hb (btrH' hbv hx))⟩
      clear hA' ho hp2 hb hbv hV2 c0 c1 c2 c3 c4
      go_upto_region 26 with fail
      rw [HV2.out]
      clear HV2
      go_wp2_with fail
      refine (of_calls _ mo2 mc2 X' V2 (HBO.out V2 (HF2.out V2 (Below.refl _ _)).2.2).1 hX1).mono ?_
      rintro e k1 ⟨m1, n1, rfl, ho, hb⟩
      have HK1 : Hid (Below V2.heap.size V2 k1) := hb
      have HM1 : Hid (k1.ownsRow V2.heap.size 49 3 (.slice m1 X'.length n1) X'.length (snv X')) := ho
      clear ho hb
      go_wp2_with fail
      refine (sSame_yes _ _ m1 po1 n1 pc1 X' k1 HM1.out (HF2.out k1 HK1.out).2.1 hX1).mono ?_
      rintro e k2 ⟨rfl, hb⟩
      have HK2 : Hid (Below V2.heap.size V2 k2) := btrH' HK1.out hb
      clear hb
      go_wp2_with fail
      refine (of_calls _ mo4 mc4 Y' k2 (HBO.out k2 (HF2.out k2 HK2.out).2.2).2.1 hX3).mono ?_
      rintro e k3 ⟨m3, n3, rfl, ho, hb⟩
      have HK3 : Hid (Below V2.heap.size V2 k3) := btrH' HK2.out hb
      have HM3 : Hid (k3.ownsRow k2.heap.size 49 3 (.slice m3 Y'.length n3) Y'.length (snv Y')) := ho
      clear ho hb
      go_wp2_with fail
      refine (sSame_yes _ _ m3 po2 n3 pc2 Y' k3 HM3.out (HF2.out k3 HK3.out).1 hX3).mono ?_
      rintro e k4 ⟨rfl, hb⟩
      have HK4 : Hid (Below V2.heap.size V2 k4) := btrH' HK3.out hb
      clear hb
      go_wp2
      go_ret
      exact ⟨rfl, (HQ.out k4 (HBO.out k4 (HF2.out k4 HK4.out).2.2).2.2).2.2⟩

theorem memory_calls (v : HV) (h : Hr) (s : Int) (w : World) (hH : HasH w v h) (hr : Hi.Reach h) :
    Calls Try.prog 3 #[hvl v h, .int .i64 s] w fun e w' => e = .returned (.bool true) ∧ Below w.heap.size w w' :=
  memory_aux v.no v.uo v.ul v.wo v.dl v.nc v.uc v.ulc v.wc v.dlc h s w hH hr

set_option maxRecDepth 100000 in
theorem memory20_lifted (os : Os) (started : os.Started) (H : Type) (enc : TypeId × Value → H) :
    ReturnsInHanded {} Try.checked os 3 .any (Rows.climbMemorySpec.pre6 enc Try.prog Try.f3 Rows.climbMemoryRow.domain false) (Rows.climbMemorySpec.post enc Try.prog Try.f3 false true false false) := by
  refine returnsInHanded_of_change_sized (C := Try.checked) Try.own started (by kernel_rfl) Try.func3
    (ChangeSpec.witness6 (enc := enc) (C := Try.checked) false ⟨#[], #[.agg #[.slice none 0 0, .slice none 0 0, .slice none 0 0, .slice none 0 0, .slice none 0 0], .int .i64 0], []⟩ 8 (by kernel_rfl) (by kernel_rfl) (by kernel_rfl) (by kernel_rfl)) ?_
  intro W base args ds gs before hval0 hW _ hsz0 _
  have hval : ∀ (j : Nat) t v, Try.f3.params[j]? = some t → args[j]? = some v → Value.okWide Try.prog W .any base t v := hval0
  have hsz : (DataW.weightsEach Try.prog (Try.f3.params.toList ++ Rows.climbMemorySpec.plain.varTypes Try.prog) (ds ++ gs)).all (· ≤ reachBytes) = true := hsz0
  have hW' := hW
  obtain ⟨p, q, hA0, hV, rfl, hfz, hnd⟩ := hW
  have hA : DataW.TrodAll enc Try.prog W 0 (fun _ => true) true Try.f3.params.toList args.toList ds p := hA0
  rw [Try.params3] at hA hval hsz
  obtain ⟨v0, vs0, d0, ds0, p0, q0, hargs, rfl, rfl, hr0, r0⟩ := trodAll_cons hA
  obtain ⟨v1, vs1, d1, ds1, p1, q1, rfl, rfl, rfl, hr1, r1⟩ := trodAll_cons r0
  obtain ⟨rfl, rfl, rfl⟩ := trodAll_nil r1
  obtain rfl : args = #[v0, v1] := by cases args; simp at hargs; simp [hargs]
  obtain ⟨rfl, rfl⟩ := trodVars_none hV
  obtain ⟨x, a, e0, e1, e2, e3, e4, rfl, hH, rfl, s0, s2, s4, s1, s3⟩ := hier_open (hval 0 25 v0 rfl rfl) hr0
  obtain ⟨s, rfl, _, _, _⟩ := open_int Try.underlying3 (hval 1 3 v1 rfl rfl) hr1
  have ra : Hi.Reach a := ⟨reach_w hsz (j := 0) rfl rfl (Or.inl rfl) s0, reach_w hsz (j := 0) rfl rfl (Or.inr (Or.inl rfl)) s1, reach_l hsz (j := 0) rfl rfl (Or.inl rfl) s2, reach_w hsz (j := 0) rfl rfl (Or.inr (Or.inr rfl)) s3, reach_l hsz (j := 0) rfl rfl (Or.inr rfl) s4⟩
  refine (memory_calls x a s W hH ra).mono fun e W' ⟨he, hw⟩ => ?_
  subst he
  exact ⟨_, rfl, post_of_law hW' rfl (by kernel_rfl) rfl (by rw [Try.params3]; intro t ht; simp at ht; rcases ht with rfl | rfl <;> exact ⟨by kernel_rfl, of_decide_eq_true (by kernel_rfl)⟩) hw⟩
end Go.Proofs.Ytlehlghagddogaa.Cb

namespace Go.Proofs.Ytlehlghagddogaa
open Go.ChangeShapes Go.WideShapes Go.ChangeAt Go.RowKit Go.Deep Go.Extern
theorem climbMemory_holds : Rows.ClimbMemorySaid :=
  OpenClaim.holds_of_wide 3 Try.f3 rfl rfl rfl rfl rfl rfl rfl ⟨rfl, rfl, rfl, rfl, rfl⟩ rfl rfl rfl rfl rfl (by kernel_rfl) Try.func3 (by kernel_rfl)
    (of_decide_eq_true (by kernel_rfl)) (by unfold Func.isWrapper; rw [if_neg (of_decide_eq_false (by kernel_rfl))]; exact ⟨rfl, rfl⟩)
    (fun os started H enc _ => Cb.memory20_lifted os started H enc)
#print axioms climbMemory_holds
end Go.Proofs.Ytlehlghagddogaa
