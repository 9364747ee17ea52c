/- viaductref10.number: the number of a child in what is turned about. viaductref10.turned and Turn: a hierarchy turned about, by the reference. (genho.py) viaductref10.Arcs: all links as arcs between ranks, in their order. viaductref22.DocLinks, whatever it is handed. (genui.py) viaductref22.DocNodes, whatever it is handed. (genuj.py) -/
import Derived.Test.YtodilocmfdeehaaGreatDoorHrU
import Derived.Test.YtodilocmfdeehaaGreatDoorHtA
import Derived.Test.YtodilocmfdeehaaGreatDoorHdM
import Derived.Test.YtodilocmfdeehaaGreatDoorHsB
import Derived.Test.YtodilocmfdeehaaGreatDoorHdC
import Derived.Test.YtodilocmfdeehaaGreatDoorUaX
import Derived.Test.YtodilocmfdeehaaGreatDoorHdH
namespace Go.Proofs.YtodilocmfdeehaaGreatDoor.Hi
open Go.RowKit Go.Extern Go.Shelf

attribute [local go_sem] Oper.semAt_some

def numT (p q i : Nat) : Nat := if i = 4294967295 then i else if i < p then q + i else i - p
end Go.Proofs.YtodilocmfdeehaaGreatDoor.Hi

namespace Go.Proofs.YtodilocmfdeehaaGreatDoor.Hi
open Go.RowKit Go.Extern Go.Shelf

attribute [local go_sem] Oper.semAt_some

/-- a link with its children told anew, as the reference tells them. -/
def rTurnL (p q : Nat) (l : Lk) : Lk := ⟨l.hd, l.wt, numT p q l.rt, numT p q l.lf⟩
theorem own_upO {w w' : World} {B n z : Nat} {T : TypeId} {v : Value} {xs : List Value} (h : w.ownsRow B T z v n xs) (hb : Below w.heap.size w w') : w'.ownsRow B T z v n xs := by
  rcases h.2 with ⟨e, h0⟩ | ⟨g, cap, cur, e, hg, hh, r⟩
  · exact ⟨h.1, .inl ⟨e, h0⟩⟩
  · exact ⟨h.1, .inr ⟨g, cap, cur, e, hg, (hb.block g (some_lt hh)).trans hh, r⟩⟩

/-- the rows lie no lower. -/
def HighV (B : Nat) (u : HV) : Prop := (∀ a, u.no = some a → B ≤ a.block) ∧ (∀ a, u.uo = some a → B ≤ a.block) ∧ (∀ a, u.ul = some a → B ≤ a.block) ∧ (∀ a, u.wo = some a → B ≤ a.block) ∧ ∀ a, u.dl = some a → B ≤ a.block
end Go.Proofs.YtodilocmfdeehaaGreatDoor.Hi

namespace Go.Proofs.YtodilocmfdeehaaGreatDoor.Hi
open Go.RowKit Go.Extern Go.Shelf

attribute [local go_sem] Oper.semAt_some

/-- the cells of links as arcs. -/
def evs (l : List Sd) : List Value := l.flatMap fun s => [.int .i64 (s.tail : Int), .int .i64 (s.head : Int), .int .i64 (s.rk : Int)]
theorem evs_append (l r : List Sd) : evs (l ++ r) = evs l ++ evs r := by simp [evs]
theorem evs_one (l : List Sd) : ∀ u ∈ evs l, u.oneCell' = true := by
  intro u hu
  simp [evs] at hu
  obtain ⟨a, _, rfl | rfl | rfl⟩ := hu <;> rfl
theorem evs_get : ∀ (l : List Sd) (i : Nat) (a : Sd), l[i]? = some a → (evs l)[i * 3]? = some (.int .i64 (a.tail : Int)) ∧ (evs l)[i * 3 + 1]? = some (.int .i64 (a.head : Int)) ∧ (evs l)[i * 3 + 2]? = some (.int .i64 (a.rk : Int))
  | [], i, a, h => by simp at h
  | s :: l, 0, a, h => by
    simp at h
    subst h
    simp [evs]
  | s :: l, i + 1, a, h => by
    obtain ⟨h0, h1, h2⟩ := evs_get l i a (by simpa using h)
    have e : evs (s :: l) = [.int .i64 (s.tail : Int), .int .i64 (s.head : Int), .int .i64 (s.rk : Int)] ++ evs l := rfl
    have key : ∀ c, (evs (s :: l))[(i + 1) * 3 + c]? = (evs l)[i * 3 + c]? := fun c => by
      rw [e, List.getElem?_append_right (by simp; omega)]
      congr 1
      simp
      omega
    exact ⟨(key 0).trans h0, (key 1).trans h1, (key 2).trans h2⟩
theorem infoEnd : (Tryz.prog.info? 59).map (fun i => (i.zero, i.size, i.bytes)) = some (some (.agg #[.int .i64 0, .int .i64 0, .int .i64 0]), 3, 24) := by kernel_rfl
/-- all links as arcs, in memory. -/
def HasEs (w : World) (lv : Value) (h : Hr) : Prop := ∃ B, ∃ (mo : Option Addr) (mc : Nat), lv = .slice mo (stds h).length mc ∧ w.ownsRow B 59 3 lv (stds h).length (evs (stds h))
theorem HasEs.keep {w w' : World} {lv : Value} {h : Hr} (g : HasEs w lv h) (hb : Below w.heap.size w w') : HasEs w' lv h := by
  obtain ⟨B, mo, mc, rfl, ho⟩ := g
  exact ⟨B, mo, mc, rfl, own_keep ho fun k _ _ hh => (hb.block k (some_lt hh)).trans hh⟩
theorem HasEs.at {w : World} {mo : Option Addr} {mc : Nat} {h : Hr} (g : HasEs w (.slice mo (stds h).length mc) h) {i : Nat} (hi : i < (stds h).length) : ∃ b, mo = some ⟨b, 0, none⟩ ∧ (w.cell? ⟨b, i * 3, none⟩ = some (.int .i64 ((sd (stds h) i).tail : Int)) ∧ w.cell? ⟨b, i * 3 + 1, none⟩ = some (.int .i64 ((sd (stds h) i).head : Int)) ∧ w.cell? ⟨b, i * 3 + 2, none⟩ = some (.int .i64 ((sd (stds h) i).rk : Int))) ∧ b < w.heap.size := by
  obtain ⟨B, mo', mc', e, ho⟩ := g
  injection e with e1 _ e3
  subst e1 e3
  rcases ho.2 with ⟨e1, h0⟩ | ⟨b, cap, cur, e1, _, hh, _⟩
  · omega
  · injection e1 with e1 _ _
    subst e1
    obtain ⟨g0, g1, g2⟩ := evs_get _ _ _ (sd_get hi)
    exact ⟨b, rfl, ⟨(ho.cellAt (i * 3) (by omega)).trans g0, (ho.cellAt (i * 3 + 1) (by omega)).trans g1, (ho.cellAt (i * 3 + 2) (by omega)).trans g2⟩, some_lt hh⟩

set_option maxRecDepth 100000 in
set_option maxHeartbeats 4000000 in
theorem arcsR_calls (v : HV) (h : Hr) (w : World) (hH : HasH w v h) (hu : FOk h.upF h.up.length) (hd : FOk h.dnF h.dn.length) (hl1 : h.upF.length ≤ 65537) (hl2 : h.dnF.length ≤ 65537) (hL : h.up.length + h.dn.length ≤ 1048576) :
    Calls Tryz.prog 24 #[hvl v h] w fun e w' => ∃ mo mc, e = .returned (.slice mo (stds h).length mc) ∧ HasEs w' (.slice mo (stds h).length mc) h ∧ Below w.heap.size w w' := by
  have hlen := stds_len hu hd
  obtain ⟨z, hz⟩ : ∃ z, w.heap.size = z := ⟨_, rfl⟩
  obtain ⟨W0, hW0⟩ : ∃ W0, w.alloc (.cells (cellsH v h) 25) = W0 := ⟨_, rfl⟩
  have hB0 : Below w.heap.size w W0 := by rw [← hW0]; exact (Below.refl _ w).alloc (Nat.le_refl _) _
  have h0 : W0.heap[z]? = some (.cells (cellsH v h) 25) := by
    rw [← hW0, ← hz]; exact heap_newW _ _
  have HQ : Hid (∀ wx, Below W0.heap.size W0 wx → (wx.cell? ⟨z, 0, none⟩ = some (.slice v.no h.node.length v.nc) ∧ wx.cell? ⟨z, 1, none⟩ = some (.slice v.uo h.upF.length v.uc) ∧ wx.cell? ⟨z, 2, none⟩ = some (.slice v.ul h.up.length v.ulc) ∧ wx.cell? ⟨z, 3, none⟩ = some (.slice v.wo h.dnF.length v.wc) ∧ wx.cell? ⟨z, 4, none⟩ = some (.slice v.dl h.dn.length v.dlc)) ∧ HasH wx v h ∧ Below w.heap.size w wx) := fun wx hx => by
    have g := hB0.trans (hx.mono hB0.size)
    exact ⟨five_cells ((hx.block _ (some_lt h0)).trans h0), hH.keep g, g⟩
  have HRK : Hid (Calls Tryz.prog 50 #[hvl v h] W0 fun e w' => ∃ mo mc, e = .returned (.slice mo (stds h).length mc) ∧ w'.ownsRow W0.heap.size 3 1 (.slice mo (stds h).length mc) (stds h).length (ivs ((stds h).map fun s => (s.rk : Int))) ∧ Below W0.heap.size W0 w') := ranksR_calls v h W0 (HQ.out W0 (Below.refl _ _)).2.1 hu hd hl1 hl2 hL
  have HEO : Hid (∀ (wx : World) (mo : Option Addr) (mc i : Nat), HasH wx v h → HasRk wx (.slice mo (stds h).length mc) h → i < (stds h).length → Calls Tryz.prog 52 #[hvl v h, .slice mo (stds h).length mc, .int .i64 (i : Int)] wx fun e w' => e = .returned (.agg #[.int .i64 ((sd (stds h) i).tail : Int), .int .i64 ((sd (stds h) i).head : Int), .int .i64 ((sd (stds h) i).rk : Int)]) ∧ Below wx.heap.size wx w') := fun wx mo mc i hx hr hi => endOf_calls v h mo mc i wx hx hr hu hd hL hi
  have HW0 : Hid (w.alloc (.cells (cellsH v h) 25) = W0) := hW0
  have HLEN : Hid ((stds h).length ≤ 1048576) := by show _ ≤ _; omega
  have HZL : Hid (w.heap.size ≤ W0.heap.size) := hB0.size
  obtain ⟨⟨c0, c1, c2, c3, c4⟩, _⟩ := HQ.out W0 (Below.refl _ _)
  obtain ⟨i0, hi9, hzz⟩ := Option.map_eq_some_iff.1 infoEnd
  simp only [Prod.mk.injEq] at hzz
  have HI : Hid (Tryz.prog.info? 59 = some i0 ∧ i0.zero = some (.agg #[.int .i64 0, .int .i64 0, .int .i64 0]) ∧ i0.size = 3 ∧ i0.bytes = 24) := ⟨hi9, hzz⟩
  clear hW0 h0 hB0 hH hi9 hzz hlen hu hd
  unfold cellsH at HW0
  unfold hvl at HRK HEO ⊢
  go_enter Tryz.func24, Tryz.ntmps24
  go_upto_region 1 with fail
  rw [HW0.out]
  clear HW0 hz
  go_wp2_with fail
  refine HRK.out.mono ?_
  rintro e w1 ⟨mo, mc, rfl, ho, hb⟩
  have HQ1 : Hid (∀ wx, Below w1.heap.size w1 wx → (wx.cell? ⟨z, 0, none⟩ = some (.slice v.no h.node.length v.nc) ∧ wx.cell? ⟨z, 1, none⟩ = some (.slice v.uo h.upF.length v.uc) ∧ wx.cell? ⟨z, 2, none⟩ = some (.slice v.ul h.up.length v.ulc) ∧ wx.cell? ⟨z, 3, none⟩ = some (.slice v.wo h.dnF.length v.wc) ∧ wx.cell? ⟨z, 4, none⟩ = some (.slice v.dl h.dn.length v.dlc)) ∧ HasH wx v h ∧ HasRk wx (.slice mo (stds h).length mc) h ∧ Below w.heap.size w wx) := fun wx hx => by
    obtain ⟨g1, g2, g3⟩ := HQ.out wx (btrH' hb hx)
    have hr : HasRk w1 (.slice mo (stds h).length mc) h := ⟨_, mo, mc, rfl, ho⟩
    exact ⟨g1, g2, hr.keep hx, g3⟩
  have HB1 : Hid (Below w1.heap.size w1 w1) := Below.refl _ _
  clear ho hb c0 c1 c2 c3 c4 HRK
  go_wp2_with fail
  go_loopw [4, 10] (fun mv nv wr => ∃ (k : Nat) (so : Option Addr) (sc : Nat), k ≤ (stds h).length ∧ nv = .int .i64 k ∧ mv = .slice so k sc ∧ Hid (wr.ownsRow w1.heap.size 59 3 (.slice so k sc) k (evs ((stds h).take k))) ∧ Hid (Below w1.heap.size w1 wr)) (fun _ nv _ => (stds h).length - (intOf nv).toNat)
  case atStart => exact ⟨0, none, 0, Nat.zero_le _, rfl, rfl, World.ownsRow_nil _ _ _ _, HB1.out⟩
  case round =>
    obtain ⟨k, so, sc, hk, rfl, rfl, HO, HB⟩ := hrel
    by_cases hlt : k < (stds h).length
    · have HT1 : Hid ((stds h).take (k + 1) = (stds h).take k ++ [sd (stds h) k]) := by show _ = _; rw [List.take_add_one, sd_get hlt]; rfl
      obtain ⟨⟨c0, c1, c2, c3, c4⟩, g2, g3, _⟩ := HQ1.out wr HB.out
      have HC : Hid (type_of% (HEO.out wr mo mc k g2 g3 hlt)) := HEO.out wr mo mc k g2 g3 hlt
      have i1 : (k : Int) < ((stds h).length : Int) := by omega
      have i2 : (0 : Int) ≤ (k : Int) := by omega
      have i3 : k < 1048576 := by have := HLEN.out; omega
      clear g2 g3
      go_wp2_with fail
      refine HC.out.mono ?_
      rintro e w4 ⟨rfl, hb4⟩
      have HK : Hid (w4.ownsRow w1.heap.size 59 3 (.slice so k sc) k (evs ((stds h).take k)) ∧ Below w1.heap.size w1 w4) := ⟨own_upO HO.out hb4, btrH' HB.out hb4⟩
      clear HC hb4 c0 c1 c2 c3 c4 HO HB
      go_wp2_with (at_builtin; refine wpList_append_own _ rfl _ _ 56 rfl w1.heap.size 59 i0 (.agg #[.int .i64 0, .int .i64 0, .int .i64 0]) 3 24 Tryz.underlying56 HI.out.1 HI.out.2.1 HI.out.2.2.1 HI.out.2.2.2 rfl (by decide) _ k (evs ((stds h).take k)) rfl (HK.out.1.alloc _) ⟨w4.heap.size, 0, none⟩ 1 1 (evs [sd (stds h) k]) rfl rfl (new_cells w4 (evs [sd (stds h) k]) 59) (evs_one _) (by unfold maxLen; omega) (by omega) (by have := HK.out.2.size; simp; omega) ?_; intro v5 w5 hown5 hgr5 _; have H5 : Hid (w5.ownsRow w1.heap.size 59 3 v5 (k + 1) (evs ((stds h).take (k + 1))) ∧ Below w1.heap.size w1 w5) := ⟨by rw [HT1.out, evs_append]; exact hown5, below_grown (HK.out.2.alloc HK.out.2.size _) (HK.out.1.alloc _) hgr5 (by have := HK.out.2.size; simp; omega)⟩; clear hown5 hgr5; obtain ⟨po, pc, hv5⟩ := own_slice H5.out.1; subst hv5)
      exact ⟨⟨k + 1, po, pc, by omega, by rw [show (k : Int) + 1 = ((k + 1 : Nat) : Int) by omega], rfl, H5.out.1, H5.out.2⟩, by simp only [intOf]; omega⟩
    · obtain rfl : k = (stds h).length := by omega
      have HK2 : Hid (HasEs wr (.slice so (stds h).length sc) h ∧ Below w.heap.size w wr) := ⟨⟨_, so, sc, rfl, by have g := HO.out; rw [List.take_length] at g; exact g⟩, (HQ1.out wr HB.out).2.2.2⟩
      clear HO HB
      go_wp2_with fail
      go_ret
      exact ⟨so, sc, rfl, HK2.out.1, HK2.out.2⟩
end Go.Proofs.YtodilocmfdeehaaGreatDoor.Hi

namespace Go.Proofs.YtodilocmfdeehaaGreatDoor.Hi
open Go.RowKit Go.Extern Go.Shelf

attribute [local go_sem] Oper.semAt_some

/-- what DocLinks or DocNodes answers. -/
def DL (er : Int × List (Int × Int)) (P : List Nat) (w : World) (e : Ending) (w' : World) : Prop := ∃ (ao : Option Addr) (c : Nat) (lo : Option Addr) (lc : Nat), e = .returned (.tuple #[.slice ao P.length c, .agg #[.int .i64 er.1, .slice lo er.2.length lc]]) ∧ GrI w w' (.slice ao P.length c) P ∧ HasPlaces w' (.slice lo er.2.length lc) er.2
theorem docLinks_res {W : World} {y : Nat} {u y0 y1 : Value} {tmps : Array Value} (h2 : W.heap[y]? = some (.cells #[y0, y1] 36)) (t2 : tmps[4]?.getD undef = u) (t3 : tmps[5]?.getD undef = .pointer (some ⟨y, 0, none⟩)) :
    (results Tryz.f11 tmps).run Tryz.prog W = .ok (.tuple #[u, .agg #[y0, y1]]) W := by
  obtain ⟨d0, d1, _, _⟩ := cell_two h2
  simp [results, Tryz.results11, go_sem, t2, t3, d0, d1]
theorem DL.bad {w w' : World} {er E : Int × List (Int × Int)} {P : List Nat} {lo : Option Addr} {lc : Nat} (hE : er = E) (hP : P = []) (hp : HasPlaces w' (.slice lo E.2.length lc) E.2) (hb : Below w.heap.size w w') : DL er P w (.returned (.tuple #[.slice none 0 0, .agg #[.int .i64 E.1, .slice lo E.2.length lc]])) w' := by
  subst hE hP
  exact ⟨none, 0, lo, lc, rfl, ⟨World.ownsRow_nil _ _ _ _, hb⟩, hp⟩

set_option maxRecDepth 100000 in
set_option maxHeartbeats 8000000 in
theorem docLinks_aux (no uo ul wo dl : Option Addr) (nc uc ulc wc dlc : Nat) (h : Hr) (i : Int) (w : World) (hH : HasH w ⟨no, uo, ul, wo, dl, nc, uc, ulc, wc, dlc⟩ h) (hb1 : h.up.length ≤ 1152921504606846976) (hb2 : h.dn.length ≤ 1152921504606846976) (hb3 : h.node.length ≤ 1152921504606846976) :
    Calls Tryz.prog 11 #[hvl ⟨no, uo, ul, wo, dl, nc, uc, ulc, wc, dlc⟩ h, .int .i64 i] w fun e w' => DL (lkE h i) (lkL h i) w e w' := by
  obtain ⟨z, hz⟩ : ∃ z, w.heap.size = z := ⟨_, rfl⟩
  obtain ⟨W0, hW0⟩ : ∃ W0, (w.alloc (.cells #[.slice no h.node.length nc, .slice uo h.upF.length uc, .slice ul h.up.length ulc, .slice wo h.dnF.length wc, .slice dl h.dn.length dlc] 25)).alloc (.cells #[.int .i64 0, .slice none 0 0] 36) = W0 := ⟨_, rfl⟩
  have hB0 : Below w.heap.size w W0 := by rw [← hW0]; exact ((Below.refl _ w).alloc (Nat.le_refl _) _).alloc (by simp) _
  have h0 : W0.heap[z]? = some (.cells #[.slice no h.node.length nc, .slice uo h.upF.length uc, .slice ul h.up.length ulc, .slice wo h.dnF.length wc, .slice dl h.dn.length dlc] 25) := by
    rw [← hW0, ← hz]; exact (Below.heap_alloc _ _ _ (by simp)).trans (heap_newW _ _)
  have h1 : W0.heap[z + 1]? = some (.cells #[.int .i64 0, .slice none 0 0] 36) := by
    have g := heap_newW (w.alloc (.cells #[.slice no h.node.length nc, .slice uo h.upF.length uc, .slice ul h.up.length ulc, .slice wo h.dnF.length wc, .slice dl h.dn.length dlc] 25)) (.cells #[.int .i64 0, .slice none 0 0] 36)
    rw [World.size_alloc, hW0, hz] at g
    exact g
  have HS0 : Hid (z + 1 < W0.heap.size) := some_lt h1
  have HQ : Hid (∀ wx, Below W0.heap.size W0 wx → wx.heap[z]? = some (.cells #[.slice no h.node.length nc, .slice uo h.upF.length uc, .slice ul h.up.length ulc, .slice wo h.dnF.length wc, .slice dl h.dn.length dlc] 25) ∧ wx.heap[z + 1]? = some (.cells #[.int .i64 0, .slice none 0 0] 36) ∧ HasH wx ⟨no, uo, ul, wo, dl, nc, uc, ulc, wc, dlc⟩ h ∧ Below w.heap.size w wx) := fun wx hx => by
    have g := hB0.trans (hx.mono hB0.size)
    exact ⟨(hx.block _ (some_lt h0)).trans h0, (hx.block _ (some_lt h1)).trans h1, hH.keep g, g⟩
  have HSZ : Hid (∀ (wx : World) (x y : Value), Below w.heap.size w wx → Below w.heap.size w ((wx.setCell ⟨z + 1, 0, none⟩ x).setCell ⟨z + 1, 1, none⟩ y)) := fun wx x y hx => (hx.setCell (p := ⟨z + 1, 0, none⟩) (by show w.heap.size ≤ z + 1; omega) _).setCell (p := ⟨z + 1, 1, none⟩) (by show w.heap.size ≤ z + 1; omega) _
  have HW0 : Hid ((w.alloc (.cells #[.slice no h.node.length nc, .slice uo h.upF.length uc, .slice ul h.up.length ulc, .slice wo h.dnF.length wc, .slice dl h.dn.length dlc] 25)).alloc (.cells #[.int .i64 0, .slice none 0 0] 36) = W0) := hW0
  have HZZ : Hid (w.heap.size = z) := hz
  have HB0 : Hid (Below W0.heap.size W0 W0) := Below.refl _ _
  have HDC : Hid (∀ wx, Below W0.heap.size W0 wx → Calls Tryz.prog 22 #[hvl ⟨no, uo, ul, wo, dl, nc, uc, ulc, wc, dlc⟩ h] wx fun e w' => RA wx (chk h) e w') := fun wx hx => docCheck10_calls _ h wx (HQ.out wx hx).2.2.1 hb1 hb2 hb3
  have HCNT : Hid (∀ wx, Calls Tryz.prog 30 #[.agg #[.slice no h.node.length nc, .slice uo h.upF.length uc, .slice ul h.up.length ulc, .slice wo h.dnF.length wc, .slice dl h.dn.length dlc]] wx fun e w' => e = .returned (.int .i64 ((h.up.length : Int) + (h.dn.length : Int))) ∧ Below wx.heap.size wx w') := fun wx => (count_calls ⟨no, uo, ul, wo, dl, nc, uc, ulc, wc, dlc⟩ h wx hb1 hb2).mono (by
    rintro e w' ⟨rfl, rfl⟩
    exact ⟨by simp, (Below.refl _ _).alloc (Nat.le_refl _) _⟩)
  clear hW0 h0 h1 hB0 hH
  have eHV : hvl ⟨no, uo, ul, wo, dl, nc, uc, ulc, wc, dlc⟩ h = .agg #[.slice no h.node.length nc, .slice uo h.upF.length uc, .slice ul h.up.length ulc, .slice wo h.dnF.length wc, .slice dl h.dn.length dlc] := rfl
  rw [eHV] at HDC ⊢
  clear eHV
  go_enter Tryz.func11, Tryz.ntmps11
  go_upto_region 1 with fail
  rw [HW0.out]
  clear HW0 hz
  obtain ⟨c0, c1, c2, c3, c4⟩ := five_cells (HQ.out W0 HB0.out).1
  go_wp2_with fail
  refine (HDC.out W0 HB0.out).mono ?_
  rintro e w1 ⟨lo, lc, rfl, hp, hb⟩
  obtain ⟨E, hE⟩ : ∃ E, chk h = E := ⟨_, rfl⟩
  have HE : Hid (chk h = E) := hE
  rw [hE] at hp ⊢
  obtain ⟨q, hq⟩ : ∃ q, w1.heap.size = q := ⟨_, rfl⟩
  obtain ⟨W2, hW2⟩ : ∃ W2, w1.alloc (.cells #[.int .i64 E.1, .slice lo E.2.length lc] 36) = W2 := ⟨_, rfl⟩
  have HW2 : Hid (w1.alloc (.cells #[.int .i64 E.1, .slice lo E.2.length lc] 36) = W2) := hW2
  have H2 : Hid (∀ wx, Below W2.heap.size W2 wx → wx.heap[q]? = some (.cells #[.int .i64 E.1, .slice lo E.2.length lc] 36) ∧ HasPlaces wx (.slice lo E.2.length lc) E.2 ∧ Below W0.heap.size W0 wx) := fun wx hx => by
    have g1 : W2.heap[q]? = some (.cells #[.int .i64 E.1, .slice lo E.2.length lc] 36) := by rw [← hW2, ← hq]; exact heap_newW _ _
    have g2 : Below w1.heap.size w1 W2 := by rw [← hW2]; exact (Below.refl _ _).alloc (Nat.le_refl _) _
    have g3 := btrH' g2 hx
    exact ⟨(hx.block _ (some_lt g1)).trans g1, hp.keep g3, btrH' hb g3⟩
  have HQ0 : Hid (W0.heap.size ≤ q) := by rw [← hq]; exact hb.size
  clear hp hb hW2 c0 c1 c2 c3 c4 hE
  go_upto_region 2 with fail
  rw [HW2.out]
  clear HW2 hq
  obtain ⟨q0, q1, _, _⟩ := cell_two (H2.out W2 (Below.refl _ _)).1
  go_wp2_with fail
  refine (Hi.bad_calls E.1 lo E.2.length lc W2).mono ?_
  rintro e w3 ⟨rfl, hb⟩
  rw [bad_iff]
  have HB3 : Hid (Below W2.heap.size W2 w3) := hb
  clear hb q0 q1
  by_cases hc : E = (0, [])
  · subst hc
    have HC : Hid (chk h = (0, [])) := HE.out
    have HF0 : Hid (∀ wx, Below w3.heap.size w3 wx → wx.heap[q]? = some (.cells #[.int .i64 0, .slice lo 0 lc] 36) ∧ wx.heap[z + 1]? = some (.cells #[.int .i64 0, .slice none 0 0] 36) ∧ Below w.heap.size w wx) := fun wx hx => by
      obtain ⟨g1, g2, g3⟩ := H2.out wx (btrH' HB3.out hx)
      obtain ⟨_, a2, _, a4⟩ := HQ.out wx g3
      exact ⟨g1, a2, a4⟩
    have HUP3 : Hid (∀ wx, Below w3.heap.size w3 wx → Below W0.heap.size W0 wx) := fun wx hx => (H2.out wx (btrH' HB3.out hx)).2.2
    have hsm := (chk_ok HC.out).2.1
    by_cases hneg : i < 0
    · have i1 : decide (i < 0) = true := by simpa using hneg
      have HTA : Hid (lkE h i = ((1, []) : Int × List (Int × Int)) ∧ lkL h i = []) := by
        have e := lkE_arg HC.out (Or.inl hneg)
        exact ⟨e, lkL_bad (by rw [e]; decide)⟩
      go_wp2_with fail
      refine (E_calls 1 w3).mono ?_
      rintro e y5 ⟨rfl, hb⟩
      have HB5 : Hid (Below w3.heap.size w3 y5) := hb
      clear hb
      obtain ⟨q0, q1, p0, p1⟩ := cell_two (HF0.out y5 HB5.out).1
      obtain ⟨U, hU⟩ : ∃ U, ((y5.setCell ⟨q, 0, none⟩ (.int .i64 1)).setCell ⟨q, 1, none⟩ (.slice none 0 0)) = U := ⟨_, rfl⟩
      have HU : Hid (((y5.setCell ⟨q, 0, none⟩ (.int .i64 1)).setCell ⟨q, 1, none⟩ (.slice none 0 0)) = U) := hU
      have HF : Hid (∀ wx, Below U.heap.size U wx → wx.heap[q]? = some (.cells #[.int .i64 ((1, []) : Int × List (Int × Int)).1, .slice none ((1, []) : Int × List (Int × Int)).2.length 0] 36) ∧ HasPlaces wx (.slice none ((1, []) : Int × List (Int × Int)).2.length 0) ((1, []) : Int × List (Int × Int)).2 ∧ wx.heap[z + 1]? = some (.cells #[.int .i64 0, .slice none 0 0] 36) ∧ Below w.heap.size w wx) := fun wx hx => by
        have hne : z + 1 ≠ q := by have := HS0.out; have := HQ0.out; omega
        obtain ⟨g1, g3, g4⟩ := HF0.out y5 HB5.out
        have e1 : U.heap[q]? = some (.cells #[.int .i64 1, .slice none 0 0] 36) := by rw [← hU]; exact set_err g1 _ _
        have e2 : U.heap[z + 1]? = some (.cells #[.int .i64 0, .slice none 0 0] 36) := by rw [← hU]; exact (Below.heap_setCell _ _ _ _ (by exact hne)).trans ((Below.heap_setCell _ _ _ _ (by exact hne)).trans g3)
        have e3 : Below w.heap.size w U := by
          have hq : w.heap.size ≤ q := by have := HZZ.out; have := HS0.out; have := HQ0.out; omega
          rw [← hU]
          exact (g4.setCell (p := ⟨q, 0, none⟩) hq _).setCell (p := ⟨q, 1, none⟩) hq _
        exact ⟨(hx.block _ (some_lt e1)).trans e1, pl_nil _, (hx.block _ (some_lt e2)).trans e2, btrH' e3 hx⟩
      clear hU
      go_upto_region 4 with fail
      rw [HU.out]
      clear HU q0 q1 p0 p1
      obtain ⟨q0, q1, _, _⟩ := cell_two (HF.out U (Below.refl _ _)).1
      go_wp2_with fail
      refine (Hi.bad_calls ((1, []) : Int × List (Int × Int)).1 none ((1, []) : Int × List (Int × Int)).2.length 0 U).mono ?_
      rintro e y9 ⟨rfl, hb⟩
      rw [bad_iff]
      have HB9 : Hid (Below U.heap.size U y9) := hb
      clear hb q0 q1
      go_wp2_with fail
      have HSS : Hid (∀ wx : World, wx.heap[q]? = some (.cells #[.int .i64 ((1, []) : Int × List (Int × Int)).1, .slice none ((1, []) : Int × List (Int × Int)).2.length 0] 36) → (fun w' : World => w'.cell? ⟨q, 0, none⟩ = some (.int .i64 ((1, []) : Int × List (Int × Int)).1) ∧ w'.cell? ⟨q, 1, none⟩ = some (.slice none ((1, []) : Int × List (Int × Int)).2.length 0) ∧ Hid (w'.heap[q]? = some (.cells #[.int .i64 ((1, []) : Int × List (Int × Int)).1, .slice none ((1, []) : Int × List (Int × Int)).2.length 0] 36))) wx) := fun wx hx => by
        obtain ⟨b0, b1, _, _⟩ := cell_two hx
        exact ⟨b0, b1, hx⟩
      have HNE : Hid (q ≠ z + 1) := by have := HS0.out; have := HQ0.out; show q ≠ z + 1; omega
      refine wp_region_M (S := (fun w' : World => w'.cell? ⟨q, 0, none⟩ = some (.int .i64 ((1, []) : Int × List (Int × Int)).1) ∧ w'.cell? ⟨q, 1, none⟩ = some (.slice none ((1, []) : Int × List (Int × Int)).2.length 0) ∧ Hid (w'.heap[q]? = some (.cells #[.int .i64 ((1, []) : Int × List (Int × Int)).1, .slice none ((1, []) : Int × List (Int × Int)).2.length 0] 36)))) (by kernel_rfl) (HSS.out _ (HF.out _ (btrH' HB9.out (Below.refl _ _).drew)).1) ?_
      refine wpAnyM_take (i := 0) (oi := ⟨some 29, .load 36 (.tmp 6), 36, "ref.go:22", #[⟨1, .gcOnly .lateStores⟩], none⟩) (v := ?va6z0) rfl (by kernel_rfl) (by kernel_rfl) (by kernel_rfl) (fun _ _ _ h => h) (YieldsM.of_if (Or.inl ⟨by rfl, ?ha6z0⟩)) ?ra6z0
      case ha6z0 => ((intro wz hSw; (try dsimp only at hSw); go_simp); try (with_reducible rfl))
      try simp only [Act.put, List.setIfInBounds_toArray, List.set_cons_zero, List.set_cons_succ]
      refine wpAnyM_take (i := 1) (oi := ⟨some 4, .assign (.const (.slice none 0 0)), 28, "ref.go:22", #[⟨0, .textOnly .lateStores⟩], none⟩) (v := ?va7z1) rfl (by kernel_rfl) (by kernel_rfl) (by kernel_rfl) (fun _ _ _ h => h) (YieldsM.of_if (Or.inl ⟨by rfl, ?ha7z1⟩)) ?ra7z1
      case ha7z1 => ((intro wz hSw; (try dsimp only at hSw); go_simp); try (with_reducible rfl))
      try simp only [Act.put, List.setIfInBounds_toArray, List.set_cons_zero, List.set_cons_succ]
      refine readyM (i := 2) (o := ⟨none, .store 36 (.tmp 5) (.tmp 29), 0, "ref.go:22", #[⟨0, .data⟩, ⟨1, .chain⟩, ⟨0, .phase⟩, ⟨1, .phase⟩], none⟩) rfl (by kernel_rfl) ?_
      intro u3 hg3 hS3 K hK
      obtain ⟨g1, g2, g4, g5⟩ := HF.out u3 (btrH' HB9.out (btrH' (Below.refl _ _).drew hg3))
      obtain ⟨d0, d1, f0, f1⟩ := cell_two g4
      have HT4 : Hid (((u3.setCell ⟨z + 1, 0, none⟩ (.int .i64 ((1, []) : Int × List (Int × Int)).1)).setCell ⟨z + 1, 1, none⟩ (.slice none ((1, []) : Int × List (Int × Int)).2.length 0)).heap[z + 1]? = some (.cells #[.int .i64 ((1, []) : Int × List (Int × Int)).1, .slice none ((1, []) : Int × List (Int × Int)).2.length 0] 36) ∧ ((u3.setCell ⟨z + 1, 0, none⟩ (.int .i64 ((1, []) : Int × List (Int × Int)).1)).setCell ⟨z + 1, 1, none⟩ (.slice none ((1, []) : Int × List (Int × Int)).2.length 0)).heap[q]? = some (.cells #[.int .i64 ((1, []) : Int × List (Int × Int)).1, .slice none ((1, []) : Int × List (Int × Int)).2.length 0] 36) ∧ HasPlaces ((u3.setCell ⟨z + 1, 0, none⟩ (.int .i64 ((1, []) : Int × List (Int × Int)).1)).setCell ⟨z + 1, 1, none⟩ (.slice none ((1, []) : Int × List (Int × Int)).2.length 0)) (.slice none ((1, []) : Int × List (Int × Int)).2.length 0) ((1, []) : Int × List (Int × Int)).2 ∧ Below w.heap.size w ((u3.setCell ⟨z + 1, 0, none⟩ (.int .i64 ((1, []) : Int × List (Int × Int)).1)).setCell ⟨z + 1, 1, none⟩ (.slice none ((1, []) : Int × List (Int × Int)).2.length 0))) := ⟨set_err g4 _ _, (Below.heap_setCell _ _ _ _ (by exact HNE.out)).trans ((Below.heap_setCell _ _ _ _ (by exact HNE.out)).trans g1), pl_sets (F := ((1, []) : Int × List (Int × Int))) g4 g2 _ _, HSZ.out _ _ _ g5⟩
      clear hS3 g1 g2 g4 g5 hg3
      go_simp
      refine hK.out _ _ (HSS.out _ HT4.out.2.1) ?_
      clear hK K d0 d1 f0 f1
      try simp only [Act.put, List.setIfInBounds_toArray, List.set_cons_zero, List.set_cons_succ]
      generalize ((u3.setCell ⟨z + 1, 0, none⟩ (.int .i64 ((1, []) : Int × List (Int × Int)).1)).setCell ⟨z + 1, 1, none⟩ (.slice none ((1, []) : Int × List (Int × Int)).2.length 0)) = U4 at HT4 ⊢
      refine wpAnyM_done (by kernel_rfl) ?_ _
      intro u9 hg9 hS9
      have H9 : Hid (u9.heap[z + 1]? = some (.cells #[.int .i64 ((1, []) : Int × List (Int × Int)).1, .slice none ((1, []) : Int × List (Int × Int)).2.length 0] 36) ∧ HasPlaces u9 (.slice none ((1, []) : Int × List (Int × Int)).2.length 0) ((1, []) : Int × List (Int × Int)).2 ∧ Below w.heap.size w u9) := ⟨(Below.block hg9 _ (some_lt HT4.out.1)).trans HT4.out.1, HT4.out.2.2.1.keep hg9, HT4.out.2.2.2.trans (hg9.mono HT4.out.2.2.2.size)⟩
      clear hS9 hg9 HT4
      go_wp2
      exact bodyPost_ret (docLinks_res H9.out.1 rfl rfl) rfl (DL.bad HTA.out.1 HTA.out.2 H9.out.2.1 H9.out.2.2)
    · have i1 : decide (i < 0) = false := by simpa using hneg
      obtain ⟨k, hk0⟩ : ∃ k : Nat, i = (k : Int) := ⟨i.toNat, by omega⟩
      subst hk0
      obtain ⟨c0, c1, c2, c3, c4⟩ := five_cells (HQ.out w3 (HUP3.out w3 (Below.refl _ _))).1
      go_wp2_with fail
      refine (HCNT.out w3).mono ?_
      rintro e y4 ⟨rfl, hb⟩
      have HB4 : Hid (Below w3.heap.size w3 y4) := hb
      clear hb c0 c1 c2 c3 c4
      by_cases hge : (h.up.length : Int) + (h.dn.length : Int) ≤ (k : Int)
      · have i2 : decide ((h.up.length : Int) + (h.dn.length : Int) ≤ (k : Int)) = true := by simpa using hge
        have HTA : Hid (lkE h (k : Int) = ((1, []) : Int × List (Int × Int)) ∧ lkL h (k : Int) = []) := by
          have e := lkE_arg (i := (k : Int)) HC.out (Or.inr (by omega))
          exact ⟨e, lkL_bad (by rw [e]; decide)⟩
        go_wp2_with fail
        refine (E_calls 1 y4).mono ?_
        rintro e y5 ⟨rfl, hb⟩
        have HB5 : Hid (Below w3.heap.size w3 y5) := btrH' HB4.out hb
        clear hb
        obtain ⟨q0, q1, p0, p1⟩ := cell_two (HF0.out y5 HB5.out).1
        obtain ⟨U, hU⟩ : ∃ U, ((y5.setCell ⟨q, 0, none⟩ (.int .i64 1)).setCell ⟨q, 1, none⟩ (.slice none 0 0)) = U := ⟨_, rfl⟩
        have HU : Hid (((y5.setCell ⟨q, 0, none⟩ (.int .i64 1)).setCell ⟨q, 1, none⟩ (.slice none 0 0)) = U) := hU
        have HF : Hid (∀ wx, Below U.heap.size U wx → wx.heap[q]? = some (.cells #[.int .i64 ((1, []) : Int × List (Int × Int)).1, .slice none ((1, []) : Int × List (Int × Int)).2.length 0] 36) ∧ HasPlaces wx (.slice none ((1, []) : Int × List (Int × Int)).2.length 0) ((1, []) : Int × List (Int × Int)).2 ∧ wx.heap[z + 1]? = some (.cells #[.int .i64 0, .slice none 0 0] 36) ∧ Below w.heap.size w wx) := fun wx hx => by
          have hne : z + 1 ≠ q := by have := HS0.out; have := HQ0.out; omega
          obtain ⟨g1, g3, g4⟩ := HF0.out y5 HB5.out
          have e1 : U.heap[q]? = some (.cells #[.int .i64 1, .slice none 0 0] 36) := by rw [← hU]; exact set_err g1 _ _
          have e2 : U.heap[z + 1]? = some (.cells #[.int .i64 0, .slice none 0 0] 36) := by rw [← hU]; exact (Below.heap_setCell _ _ _ _ (by exact hne)).trans ((Below.heap_setCell _ _ _ _ (by exact hne)).trans g3)
          have e3 : Below w.heap.size w U := by
            have hq : w.heap.size ≤ q := by have := HZZ.out; have := HS0.out; have := HQ0.out; omega
            rw [← hU]
            exact (g4.setCell (p := ⟨q, 0, none⟩) hq _).setCell (p := ⟨q, 1, none⟩) hq _
          exact ⟨(hx.block _ (some_lt e1)).trans e1, pl_nil _, (hx.block _ (some_lt e2)).trans e2, btrH' e3 hx⟩
        clear hU
        go_upto_region 4 with fail
        rw [HU.out]
        clear HU q0 q1 p0 p1
        obtain ⟨q0, q1, _, _⟩ := cell_two (HF.out U (Below.refl _ _)).1
        go_wp2_with fail
        refine (Hi.bad_calls ((1, []) : Int × List (Int × Int)).1 none ((1, []) : Int × List (Int × Int)).2.length 0 U).mono ?_
        rintro e y9 ⟨rfl, hb⟩
        rw [bad_iff]
        have HB9 : Hid (Below U.heap.size U y9) := hb
        clear hb q0 q1
        go_wp2_with fail
        have HSS : Hid (∀ wx : World, wx.heap[q]? = some (.cells #[.int .i64 ((1, []) : Int × List (Int × Int)).1, .slice none ((1, []) : Int × List (Int × Int)).2.length 0] 36) → (fun w' : World => w'.cell? ⟨q, 0, none⟩ = some (.int .i64 ((1, []) : Int × List (Int × Int)).1) ∧ w'.cell? ⟨q, 1, none⟩ = some (.slice none ((1, []) : Int × List (Int × Int)).2.length 0) ∧ Hid (w'.heap[q]? = some (.cells #[.int .i64 ((1, []) : Int × List (Int × Int)).1, .slice none ((1, []) : Int × List (Int × Int)).2.length 0] 36))) wx) := fun wx hx => by
          obtain ⟨b0, b1, _, _⟩ := cell_two hx
          exact ⟨b0, b1, hx⟩
        have HNE : Hid (q ≠ z + 1) := by have := HS0.out; have := HQ0.out; show q ≠ z + 1; omega
        refine wp_region_M (S := (fun w' : World => w'.cell? ⟨q, 0, none⟩ = some (.int .i64 ((1, []) : Int × List (Int × Int)).1) ∧ w'.cell? ⟨q, 1, none⟩ = some (.slice none ((1, []) : Int × List (Int × Int)).2.length 0) ∧ Hid (w'.heap[q]? = some (.cells #[.int .i64 ((1, []) : Int × List (Int × Int)).1, .slice none ((1, []) : Int × List (Int × Int)).2.length 0] 36)))) (by kernel_rfl) (HSS.out _ (HF.out _ (btrH' HB9.out (Below.refl _ _).drew)).1) ?_
        refine wpAnyM_take (i := 0) (oi := ⟨some 29, .load 36 (.tmp 6), 36, "ref.go:22", #[⟨1, .gcOnly .lateStores⟩], none⟩) (v := ?va8z0) rfl (by kernel_rfl) (by kernel_rfl) (by kernel_rfl) (fun _ _ _ h => h) (YieldsM.of_if (Or.inl ⟨by rfl, ?ha8z0⟩)) ?ra8z0
        case ha8z0 => ((intro wz hSw; (try dsimp only at hSw); go_simp); try (with_reducible rfl))
        try simp only [Act.put, List.setIfInBounds_toArray, List.set_cons_zero, List.set_cons_succ]
        refine wpAnyM_take (i := 1) (oi := ⟨some 4, .assign (.const (.slice none 0 0)), 28, "ref.go:22", #[⟨0, .textOnly .lateStores⟩], none⟩) (v := ?va9z1) rfl (by kernel_rfl) (by kernel_rfl) (by kernel_rfl) (fun _ _ _ h => h) (YieldsM.of_if (Or.inl ⟨by rfl, ?ha9z1⟩)) ?ra9z1
        case ha9z1 => ((intro wz hSw; (try dsimp only at hSw); go_simp); try (with_reducible rfl))
        try simp only [Act.put, List.setIfInBounds_toArray, List.set_cons_zero, List.set_cons_succ]
        refine readyM (i := 2) (o := ⟨none, .store 36 (.tmp 5) (.tmp 29), 0, "ref.go:22", #[⟨0, .data⟩, ⟨1, .chain⟩, ⟨0, .phase⟩, ⟨1, .phase⟩], none⟩) rfl (by kernel_rfl) ?_
        intro u3 hg3 hS3 K hK
        obtain ⟨g1, g2, g4, g5⟩ := HF.out u3 (btrH' HB9.out (btrH' (Below.refl _ _).drew hg3))
        obtain ⟨d0, d1, f0, f1⟩ := cell_two g4
        have HT4 : Hid (((u3.setCell ⟨z + 1, 0, none⟩ (.int .i64 ((1, []) : Int × List (Int × Int)).1)).setCell ⟨z + 1, 1, none⟩ (.slice none ((1, []) : Int × List (Int × Int)).2.length 0)).heap[z + 1]? = some (.cells #[.int .i64 ((1, []) : Int × List (Int × Int)).1, .slice none ((1, []) : Int × List (Int × Int)).2.length 0] 36) ∧ ((u3.setCell ⟨z + 1, 0, none⟩ (.int .i64 ((1, []) : Int × List (Int × Int)).1)).setCell ⟨z + 1, 1, none⟩ (.slice none ((1, []) : Int × List (Int × Int)).2.length 0)).heap[q]? = some (.cells #[.int .i64 ((1, []) : Int × List (Int × Int)).1, .slice none ((1, []) : Int × List (Int × Int)).2.length 0] 36) ∧ HasPlaces ((u3.setCell ⟨z + 1, 0, none⟩ (.int .i64 ((1, []) : Int × List (Int × Int)).1)).setCell ⟨z + 1, 1, none⟩ (.slice none ((1, []) : Int × List (Int × Int)).2.length 0)) (.slice none ((1, []) : Int × List (Int × Int)).2.length 0) ((1, []) : Int × List (Int × Int)).2 ∧ Below w.heap.size w ((u3.setCell ⟨z + 1, 0, none⟩ (.int .i64 ((1, []) : Int × List (Int × Int)).1)).setCell ⟨z + 1, 1, none⟩ (.slice none ((1, []) : Int × List (Int × Int)).2.length 0))) := ⟨set_err g4 _ _, (Below.heap_setCell _ _ _ _ (by exact HNE.out)).trans ((Below.heap_setCell _ _ _ _ (by exact HNE.out)).trans g1), pl_sets (F := ((1, []) : Int × List (Int × Int))) g4 g2 _ _, HSZ.out _ _ _ g5⟩
        clear hS3 g1 g2 g4 g5 hg3
        go_simp
        refine hK.out _ _ (HSS.out _ HT4.out.2.1) ?_
        clear hK K d0 d1 f0 f1
        try simp only [Act.put, List.setIfInBounds_toArray, List.set_cons_zero, List.set_cons_succ]
        generalize ((u3.setCell ⟨z + 1, 0, none⟩ (.int .i64 ((1, []) : Int × List (Int × Int)).1)).setCell ⟨z + 1, 1, none⟩ (.slice none ((1, []) : Int × List (Int × Int)).2.length 0)) = U4 at HT4 ⊢
        refine wpAnyM_done (by kernel_rfl) ?_ _
        intro u9 hg9 hS9
        have H9 : Hid (u9.heap[z + 1]? = some (.cells #[.int .i64 ((1, []) : Int × List (Int × Int)).1, .slice none ((1, []) : Int × List (Int × Int)).2.length 0] 36) ∧ HasPlaces u9 (.slice none ((1, []) : Int × List (Int × Int)).2.length 0) ((1, []) : Int × List (Int × Int)).2 ∧ Below w.heap.size w u9) := ⟨(Below.block hg9 _ (some_lt HT4.out.1)).trans HT4.out.1, HT4.out.2.2.1.keep hg9, HT4.out.2.2.2.trans (hg9.mono HT4.out.2.2.2.size)⟩
        clear hS9 hg9 HT4
        go_wp2
        exact bodyPost_ret (docLinks_res H9.out.1 rfl rfl) rfl (DL.bad HTA.out.1 HTA.out.2 H9.out.2.1 H9.out.2.2)
      · have i2 : decide ((h.up.length : Int) + (h.dn.length : Int) ≤ (k : Int)) = false := by simpa using hge
        have hk : k < h.up.length + h.dn.length := by omega
        obtain ⟨q0, q1, _, _⟩ := cell_two (HF0.out y4 HB4.out).1
        go_wp2_with fail
        refine (Hi.bad_calls 0 lo 0 lc y4).mono ?_
        rintro e X0 ⟨rfl, hb⟩
        have HX0 : Hid (Below w3.heap.size w3 X0) := btrH' HB4.out hb
        clear hb q0 q1
        obtain ⟨T, hT⟩ : ∃ T, flatI h k = T := ⟨_, rfl⟩
        have HTT : Hid (flatI h k = T) := hT
        have hks : k < (stds h).length := by rw [stds_len (chk_ok HC.out).2.2.2.2.1 (chk_ok HC.out).2.2.2.2.2.1]; exact hk
        obtain ⟨V, hV⟩ : ∃ V, X0.alloc (.cells #[.int .i64 (k : Int)] 3) = V := ⟨_, rfl⟩
        have HV : Hid (X0.alloc (.cells #[.int .i64 (k : Int)] 3) = V) := hV
        have Y0 : Hid (LayI h T 65537 X0 V (.slice none 0 0) (.slice (some ⟨X0.heap.size, 0, none⟩) [k].length 1) [] [k]) := by
          have b1 : Below X0.heap.size X0 V := by rw [← hV]; exact (Below.refl _ _).alloc (Nat.le_refl _) _
          have n1 : V.heap[X0.heap.size]? = some (.cells #[.int .i64 (k : Int)] 3) := by rw [← hV]; exact heap_newW _ _
          exact ⟨b1, World.ownsRow_nil _ _ _ _, ⟨rfl, Or.inr ⟨X0.heap.size, 1, _, rfl, Nat.le_refl _, n1, Nat.le_refl _, by unfold maxLen; decide, rfl, rfl⟩⟩, (fun a ha => by cases ha), by rw [List.nil_append, List.reverse_singleton, layL_one]; exact hT, Waits.back (L := [k]) HC.out (fun j hj => by simp at hj; subst hj; exact hks), Nat.zero_le _⟩
        have HX : Hid (∀ wx, Below X0.heap.size X0 wx → wx.heap[z]? = some (.cells #[.slice no h.node.length nc, .slice uo h.upF.length uc, .slice ul h.up.length ulc, .slice wo h.dnF.length wc, .slice dl h.dn.length dlc] 25) ∧ wx.heap[z + 1]? = some (.cells #[.int .i64 0, .slice none 0 0] 36) ∧ wx.heap[q]? = some (.cells #[.int .i64 0, .slice lo 0 lc] 36) ∧ HasH wx ⟨no, uo, ul, wo, dl, nc, uc, ulc, wc, dlc⟩ h ∧ Below w.heap.size w wx) := fun wx hx => by
          have b := btrH' HX0.out hx
          obtain ⟨a1, a2, a3, a4⟩ := HQ.out wx (HUP3.out wx b)
          exact ⟨a1, a2, (HF0.out wx b).1, a3, a4⟩
        have HZX : Hid (z + 1 < X0.heap.size ∧ w.heap.size ≤ X0.heap.size ∧ q < X0.heap.size) := ⟨some_lt (HX.out X0 (Below.refl _ _)).2.1, (HX.out X0 (Below.refl _ _)).2.2.2.2.size, some_lt (HX.out X0 (Below.refl _ _)).2.2.1⟩
        have HNE : Hid (q ≠ z + 1) := by have := HS0.out; have := HQ0.out; show q ≠ z + 1; omega
        have HAT : Hid (∀ wx (j : Nat), j < (stds h).length → Below X0.heap.size X0 wx → Calls Tryz.prog 27 #[.agg #[.slice no h.node.length nc, .slice uo h.upF.length uc, .slice ul h.up.length ulc, .slice wo h.dnF.length wc, .slice dl h.dn.length dlc], .int .i64 (j : Int)] wx fun e w' => e = .returned (.agg #[.int .u32 ((lkO h j).lk.hd : Int), .int .u64 ((lkO h j).lk.wt : Int), .int .u32 ((lkO h j).lk.lf : Int), .int .u32 ((lkO h j).lk.rt : Int)]) ∧ Below wx.heap.size wx w') := fun wx j hj hx => by
          have hj2 := hj
          rw [stds_len (chk_ok HC.out).2.2.2.2.1 (chk_ok HC.out).2.2.2.2.2.1] at hj2
          have g := link_calls _ h j wx (HX.out wx hx).2.2.2.1 (by omega) hj2
          rw [(link_ok HC.out hj).lk] at g
          exact g
        have HPL : Hid (∀ (l : Lk) wx, Calls Tryz.prog 26 #[.agg #[.int .u32 (l.hd : Int), .int .u64 (l.wt : Int), .int .u32 (l.lf : Int), .int .u32 (l.rt : Int)]] wx fun e w' => e = .returned (.bool l.plain) ∧ Below wx.heap.size wx w') := fun l wx => tplain_calls l wx
        have HOKL : Hid (∀ j, j < (stds h).length → (lkO h j).lk.ok) := fun j hj => by
          have hj2 := hj
          rw [stds_len (chk_ok HC.out).2.2.2.2.1 (chk_ok HC.out).2.2.2.2.2.1] at hj2
          have hH := (HX.out X0 (Below.refl _ _)).2.2.2.1
          show (sd (stds h) j).lk.ok
          rw [← (link_ok HC.out hj).lk]
          unfold linkAt
          rw [List.getD_eq_getElem?_getD]
          rcases Nat.lt_or_ge j h.up.length with hlt | hge
          · rw [List.getElem?_append_left hlt, List.getElem?_eq_getElem hlt]
            exact (hH.up.at (List.getElem?_eq_getElem hlt)).1
          · rw [List.getElem?_append_right hge, List.getElem?_eq_getElem (by omega)]
            exact (hH.dn.at (List.getElem?_eq_getElem (by omega))).1
        obtain ⟨i0, hi0⟩ := infoI
        have HI0 : Hid (Tryz.prog.info? 3 = some i0 ∧ i0.zero = some (.int .i64 0) ∧ i0.size = 1 ∧ i0.bytes = 8) := hi0
        have HKK : Hid (k < h.up.length + h.dn.length) := hk
        clear hV hi0 hT hks hk hge hneg hsm i1 i2
        go_upto_region 8 with fail
        rw [HV.out]
        go_loopw [7, 8] (fun pv qv wr => ∃ (P W : List Nat) (po qo : Option Addr) (pc qc : Nat), pv = .slice po P.length pc ∧ qv = .slice qo W.length qc ∧ Hid (LayI h T 65537 X0 wr (.slice po P.length pc) (.slice qo W.length qc) P W)) (fun _ qv wr => sumZ h (rdRow wr qv))
        case atStart => exact ⟨[], [k], none, some ⟨X0.heap.size, 0, none⟩, 0, 1, rfl, rfl, Y0.out⟩
        case round =>
          obtain ⟨P, W, po, qo, pc, qc, rfl, rfl, HI⟩ := hrel
          rcases List.eq_nil_or_concat W with rfl | ⟨W1, i, hW⟩
          · have HEQ : Hid (P = T ∧ P.length ≤ 131072) := ⟨by have := HI.out.eq; simpa [layL] using this, HI.out.few⟩
            have HTA : Hid (lkE h (k : Int) = (0, []) ∧ lkL h (k : Int) = P) := by
              obtain ⟨e1, e2⟩ := HEQ.out
              have hl : (flatI h k).length ≤ 131072 := by rw [HTT.out, ← e1]; exact e2
              have e3 := lkE_ok HC.out HKK.out hl
              exact ⟨e3, (lkL_ok e3).trans (HTT.out.trans e1.symm)⟩
            have HGO : Hid (GrI w wr (.slice po P.length pc) P ∧ wr.ownsRow X0.heap.size 3 1 (.slice po P.length pc) P.length (iv (zs P))) := ⟨⟨own_lowU HI.out.own HZX.out.2.1, (HX.out wr HI.out.bel).2.2.2.2⟩, HI.out.own⟩
            have HBL : Hid (Below X0.heap.size X0 wr) := HI.out.bel
            clear HI
            go_wp2_with fail
            have HSS : Hid (∀ wx : World, wx.heap[q]? = some (.cells #[.int .i64 0, .slice lo 0 lc] 36) → (fun w' : World => w'.cell? ⟨q, 0, none⟩ = some (.int .i64 0) ∧ w'.cell? ⟨q, 1, none⟩ = some (.slice lo 0 lc) ∧ Hid (w'.heap[q]? = some (.cells #[.int .i64 0, .slice lo 0 lc] 36))) wx) := fun wx hx => by
              obtain ⟨b0, b1, _, _⟩ := cell_two hx
              exact ⟨b0, b1, hx⟩
            refine wp_region_M (S := (fun w' : World => w'.cell? ⟨q, 0, none⟩ = some (.int .i64 0) ∧ w'.cell? ⟨q, 1, none⟩ = some (.slice lo 0 lc) ∧ Hid (w'.heap[q]? = some (.cells #[.int .i64 0, .slice lo 0 lc] 36)))) (by kernel_rfl) (HSS.out _ (HX.out _ (btrH' HBL.out (Below.refl _ _).drew)).2.2.1) ?_
            refine wpAnyM_take (i := 0) (oi := ⟨some 69, .move (.tmp 7), 28, "ref.go:39", #[], none⟩) (v := ?vl3z0) rfl (by kernel_rfl) (by kernel_rfl) (by kernel_rfl) (fun _ _ _ h => h) (YieldsM.of_if (Or.inl ⟨by rfl, ?hl3z0⟩)) ?rl3z0
            case hl3z0 => ((intro wz hSw; (try dsimp only at hSw); go_simp); try (with_reducible rfl))
            try simp only [Act.put, List.setIfInBounds_toArray, List.set_cons_zero, List.set_cons_succ]
            refine wpAnyM_take (i := 1) (oi := ⟨some 70, .load 36 (.tmp 6), 36, "ref.go:39", #[⟨2, .gcOnly .lateStores⟩], none⟩) (v := ?vl4z1) rfl (by kernel_rfl) (by kernel_rfl) (by kernel_rfl) (fun _ _ _ h => h) (YieldsM.of_if (Or.inl ⟨by rfl, ?hl4z1⟩)) ?rl4z1
            case hl4z1 => ((intro wz hSw; (try dsimp only at hSw); go_simp); try (with_reducible rfl))
            try simp only [Act.put, List.setIfInBounds_toArray, List.set_cons_zero, List.set_cons_succ]
            refine wpAnyM_take (i := 2) (oi := ⟨some 4, .assign (.tmp 69), 28, "ref.go:39", #[⟨0, .data⟩, ⟨0, .phase⟩, ⟨1, .textOnly .lateStores⟩], none⟩) (v := ?vl5z2) rfl (by kernel_rfl) (by kernel_rfl) (by kernel_rfl) (fun _ _ _ h => h) (YieldsM.of_if (Or.inl ⟨by rfl, ?hl5z2⟩)) ?rl5z2
            case hl5z2 => ((intro wz hSw; (try dsimp only at hSw); go_simp); try (with_reducible rfl))
            try simp only [Act.put, List.setIfInBounds_toArray, List.set_cons_zero, List.set_cons_succ]
            refine readyM (i := 3) (o := ⟨none, .store 36 (.tmp 5) (.tmp 70), 0, "ref.go:39", #[⟨1, .data⟩, ⟨2, .chain⟩, ⟨0, .phase⟩, ⟨1, .phase⟩, ⟨2, .phase⟩], none⟩) rfl (by kernel_rfl) ?_
            intro u3 hg3 hS3 K hK
            have hb3 := btrH' HBL.out (btrH' (Below.refl _ _).drew hg3)
            obtain ⟨g0, g4, g1, _, g5⟩ := HX.out u3 hb3
            obtain ⟨d0, d1, f0, f1⟩ := cell_two g4
            have hown : u3.ownsRow X0.heap.size 3 1 (.slice po P.length pc) P.length (iv (zs P)) := iown_keep HGO.out.2 fun k hk => (Below.block (btrH' (Below.refl _ _).drew hg3) k (HGO.out.2.lt k hk).2)
            have HT4 : Hid (((u3.setCell ⟨z + 1, 0, none⟩ (.int .i64 0)).setCell ⟨z + 1, 1, none⟩ (.slice lo 0 lc)).heap[z + 1]? = some (.cells #[.int .i64 0, .slice lo 0 lc] 36) ∧ ((u3.setCell ⟨z + 1, 0, none⟩ (.int .i64 0)).setCell ⟨z + 1, 1, none⟩ (.slice lo 0 lc)).heap[q]? = some (.cells #[.int .i64 0, .slice lo 0 lc] 36) ∧ ((u3.setCell ⟨z + 1, 0, none⟩ (.int .i64 0)).setCell ⟨z + 1, 1, none⟩ (.slice lo 0 lc)).ownsRow w.heap.size 3 1 (.slice po P.length pc) P.length (iv (zs P)) ∧ Below w.heap.size w ((u3.setCell ⟨z + 1, 0, none⟩ (.int .i64 0)).setCell ⟨z + 1, 1, none⟩ (.slice lo 0 lc))) := ⟨set_err g4 _ _, (Below.heap_setCell _ _ _ _ (by exact HNE.out)).trans ((Below.heap_setCell _ _ _ _ (by exact HNE.out)).trans g1), own_lowU (iown_keep hown fun k hk => by
              have hne : k ≠ z + 1 := by have := (hown.lt k hk).1; have := HZX.out.1; omega
              exact (Below.heap_setCell _ _ _ _ (by exact hne)).trans (Below.heap_setCell _ _ _ _ (by exact hne))) HZX.out.2.1, HSZ.out _ _ _ g5⟩
            clear hS3 g0 g1 g4 g5 hg3 hown hb3
            go_simp
            refine hK.out _ _ (HSS.out _ HT4.out.2.1) ?_
            clear hK K d0 d1 f0 f1
            try simp only [Act.put, List.setIfInBounds_toArray, List.set_cons_zero, List.set_cons_succ]
            generalize ((u3.setCell ⟨z + 1, 0, none⟩ (.int .i64 0)).setCell ⟨z + 1, 1, none⟩ (.slice lo 0 lc)) = U4 at HT4 ⊢
            refine wpAnyM_done (by kernel_rfl) ?_ _
            intro u9 hg9 hS9
            have H9 : Hid (u9.heap[z + 1]? = some (.cells #[.int .i64 0, .slice lo 0 lc] 36) ∧ GrI w u9 (.slice po P.length pc) P) := ⟨(Below.block hg9 _ (some_lt HT4.out.1)).trans HT4.out.1, GrI.up ⟨HT4.out.2.2.1, HT4.out.2.2.2⟩ hg9⟩
            clear hS9 hg9 HT4
            go_wp2
            refine bodyPost_ret (docLinks_res H9.out.1 rfl rfl) rfl ?_
            rw [HTA.out.1, HTA.out.2]
            exact ⟨po, pc, lo, lc, rfl, H9.out.2, ⟨lo, lc, rfl, fun j p hj => by simp at hj⟩⟩
          · rw [List.concat_eq_append] at hW
            subst hW
            obtain ⟨gq, cap, hq, _, hgl, hcap, hcl⟩ := iown_at HI.out.wow (by simp)
            injection hq with hq1 hq2 hq3
            subst hq1 hq3
            clear hq2
            have ci := hcl W1.length i (by simp)
            clear hcl
            obtain ⟨_, hwt, hist, hwl⟩ := HI.out.pop
            have hwn : W1.length ≤ 2000000 := by
              have := hwt.len
              omega
            have HIS : Hid (i < (stds h).length) := hist
            have HME : Hid (rdRow wr (.slice (some ⟨gq, 0, none⟩) (W1 ++ [i]).length qc) = W1 ++ [i]) := rd_own HI.out.wow
            obtain ⟨l, hl⟩ : ∃ l, (lkO h i).lk = l := ⟨_, rfl⟩
            obtain ⟨o1, o2, o3, o4⟩ := HOKL.out i hist
            rw [hl] at o1 o2 o3 o4
            have HL : Hid ((lkO h i).lk = l) := hl
            have hA := HAT.out wr i hist HI.out.bel
            rw [hl] at hA
            have HA : Hid (type_of% hA) := hA
            obtain ⟨pl, hpl⟩ : ∃ pl, plO h i = pl := ⟨_, rfl⟩
            have HP : Hid (plO h i = pl ∧ l.plain = pl) := ⟨hpl, by rw [← hl]; exact hpl⟩
            have v1 : IntKind.i64.wrap ((W1.length : Int) + 1 - 1) = (W1.length : Int) := by rw [IntKind.wrap_i64] <;> omega
            have v2 : (W1.length : Int) + 1 - 1 = (W1.length : Int) := by omega
            have hsl : ∀ wx, (Instr.slice 28 (.slice (some ⟨gq, 0, none⟩) (W1.length + 1) qc) none (some (.int .i64 (W1.length : Int))) none).run Tryz.prog wx = .ok (.slice (some ⟨gq, 0, none⟩) W1.length qc) wx := fun wx => slice_uptoI gq (W1.length + 1) qc W1.length (by simpa using hcap) (by omega) wx
            have i1 : (0 : Int) ≤ (W1.length : Int) := by omega
            have i2 : (W1.length : Int) < (W1.length : Int) + 1 := by omega
            obtain ⟨c0, c1, c2, c3, c4⟩ := five_cells (HX.out wr HI.out.bel).1
            clear hist hl hA hpl hwt hwl
            go_wp2_with fail
            refine HA.out.mono ?_
            rintro e y1 ⟨rfl, hb⟩
            have Y1 : Hid (Below wr.heap.size wr y1) := hb
            clear hb c0 c1 c2 c3 c4 ci hsl hgl
            obtain ⟨b, hbz⟩ : ∃ b, y1.heap.size = b := ⟨_, rfl⟩
            obtain ⟨V1, hV1⟩ : ∃ V1, y1.alloc (.cells #[.int .u32 (l.hd : Int), .int .u64 (l.wt : Int), .int .u32 (l.lf : Int), .int .u32 (l.rt : Int)] 65) = V1 := ⟨_, rfl⟩
            have HV1 : Hid (y1.alloc (.cells #[.int .u32 (l.hd : Int), .int .u64 (l.wt : Int), .int .u32 (l.lf : Int), .int .u32 (l.rt : Int)] 65) = V1 ∧ y1.heap.size = b) := ⟨hV1, hbz⟩
            have b1 : Below y1.heap.size y1 V1 := by rw [← hV1]; exact (Below.refl _ _).alloc (Nat.le_refl _) _
            have n1 : V1.heap[b]? = some (.cells #[.int .u32 (l.hd : Int), .int .u64 (l.wt : Int), .int .u32 (l.lf : Int), .int .u32 (l.rt : Int)] 65) := by rw [← hV1, ← hbz]; exact heap_newW _ _
            have HV2 : Hid (∀ wx, Below V1.heap.size V1 wx → (wx.cell? ⟨b, 0, none⟩ = some (.int .u32 (l.hd : Int)) ∧ wx.cell? ⟨b, 1, none⟩ = some (.int .u64 (l.wt : Int)) ∧ wx.cell? ⟨b, 2, none⟩ = some (.int .u32 (l.lf : Int)) ∧ wx.cell? ⟨b, 3, none⟩ = some (.int .u32 (l.rt : Int)) ∧ b < wx.heap.size) ∧ Below wr.heap.size wr wx) := fun wx hx => by
              have g := (hx.block _ (some_lt n1)).trans n1
              exact ⟨⟨by simp [World.cell?, g], by simp [World.cell?, g], by simp [World.cell?, g], by simp [World.cell?, g], some_lt g⟩, btrU Y1.out (btrU b1 hx)⟩
            clear hV1 hbz b1 n1
            go_upto_region 12 with fail
            rw [HV1.out.1]
            rw [HV1.out.2]
            obtain ⟨⟨d0, d1, d2, d3, lb⟩, _⟩ := HV2.out V1 (Below.refl _ _)
            go_wp2_with fail
            refine (HPL.out l V1).mono ?_
            rintro e y2 ⟨rfl, hb⟩
            have Y2 : Hid (Below V1.heap.size V1 y2) := hb
            clear hb d0 d1 d2 d3 lb
            obtain ⟨⟨d0, d1, d2, d3, lb⟩, _⟩ := HV2.out y2 Y2.out
            have HB2 : Hid (Below wr.heap.size wr y2) := (HV2.out y2 Y2.out).2
            rw [HP.out.2]
            have x1 : IntKind.i64.wrap (l.rt : Int) = (l.rt : Int) := by rw [IntKind.wrap_i64] <;> omega
            have x2 : IntKind.i64.wrap (l.lf : Int) = (l.lf : Int) := by rw [IntKind.wrap_i64] <;> omega
            cases pl with
            | false =>
              go_wp2_with (at_builtin; refine wpList_append_lies _ rfl _ _ 28 rfl X0.heap.size 3 i0 (.int .i64 0) 1 8 Tryz.underlying28 HI0.out.1 HI0.out.2.1 HI0.out.2.2.1 HI0.out.2.2.2 rfl (by decide) (.slice (some ⟨gq, 0, none⟩) W1.length qc) W1.length (iv (zs W1)) rfl (iown_keep (HI.out.up HB2.out).pop.1 fun k hk => Below.heap_alloc _ _ _ ((HI.out.up HB2.out).pop.1.lt k hk).2) ⟨y2.heap.size, 0, none⟩ 2 2 (iv (zs [l.rt, l.lf])) rfl rfl (new_cellsU y2 (iv (zs [l.rt, l.lf])) 3) (ivz_one _) (by decide) (by unfold maxLen; omega) (by omega) (by have := (HI.out.up HB2.out).bel.size; simp; omega) _ rfl ?_; intro g5 cap5 w5 hown5 hgr5 hor5 hlt5; have H5 : Hid (LayI h T 65537 X0 w5 (.slice po P.length pc) (.slice (some ⟨g5, 0, none⟩) (W1 ++ [(lkO h i).lk.rt, (lkO h i).lk.lf]).length cap5) P (W1 ++ [(lkO h i).lk.rt, (lkO h i).lk.lf]) ∧ sumZ h (W1 ++ [(lkO h i).lk.rt, (lkO h i).lk.lf]) < sumZ h (W1 ++ [i])) := HI.out.cut HC.out HP.out.1 (btrU HB2.out ((Below.refl _ y2).alloc (Nat.le_refl _) _)) (by rw [HL.out]; exact hown5) hgr5 hor5; clear hown5 hgr5 hor5 hlt5)
              go_roundw
              case rel => exact ⟨P, W1 ++ [(lkO h i).lk.rt, (lkO h i).lk.lf], po, some ⟨g5, 0, none⟩, pc, cap5, rfl, by simp, H5.out.1⟩
              case measure =>
                have q1 := rd_own H5.out.1.wow
                have q2 := HME.out
                have q3 := H5.out.2
                simp only [List.length_append, List.length_cons, List.length_nil] at q1 q2 ⊢
                rw [q1, q2]
                exact q3
            | true =>
              by_cases hful : P.length = 131072
              · have f1 : ((P.length : Int) == 131072) = true := by simp; omega
                have HTT2 : Hid (131072 < T.length) := by
                  have q1 := HI.out.eq
                  have q2 := (lay_plain q1 HP.out.1).1
                  show 131072 < T.length
                  rw [← q2]
                  simp
                  omega
                have HTA : Hid (lkE h (k : Int) = (2, []) ∧ lkL h (k : Int) = []) := by
                  have e := lkE_long HC.out HKK.out (by rw [HTT.out]; exact HTT2.out)
                  exact ⟨e, lkL_bad (by rw [e]; decide)⟩
                have HB3 : Hid (Below X0.heap.size X0 y2) := (HI.out.up HB2.out).bel
                clear HI HL HP HME
                go_wp2_with fail
                refine (E_calls 2 y2).mono ?_
                rintro e y6 ⟨rfl, hb⟩
                obtain ⟨_, g4, _, _, g5⟩ := HX.out y6 (btrH' HB3.out hb)
                obtain ⟨e0, e1, f0, f2⟩ := cell_two g4
                have H9 : Hid (((y6.setCell ⟨z + 1, 0, none⟩ (.int .i64 2)).setCell ⟨z + 1, 1, none⟩ (.slice none 0 0)).heap[z + 1]? = some (.cells #[.int .i64 ((2, []) : Int × List (Int × Int)).1, .slice none ((2, []) : Int × List (Int × Int)).2.length 0] 36) ∧ Below w.heap.size w ((y6.setCell ⟨z + 1, 0, none⟩ (.int .i64 2)).setCell ⟨z + 1, 1, none⟩ (.slice none 0 0))) := ⟨set_err g4 _ _, HSZ.out _ _ _ g5⟩
                clear hb g4 g5
                go_wp2
                exact bodyPost_ret (docLinks_res H9.out.1 rfl rfl) rfl (DL.bad HTA.out.1 HTA.out.2 (pl_nil _) H9.out.2)
              · have f1 : ((P.length : Int) == 131072) = false := by simp; omega
                have HPL2 : Hid (P.length < 131072) := by have := HI.out.few; show P.length < 131072; omega
                have hpf : P.length < 131072 := HPL2.out
                go_wp2_with (at_builtin; refine wpList_append_lies _ rfl _ _ 28 rfl X0.heap.size 3 i0 (.int .i64 0) 1 8 Tryz.underlying28 HI0.out.1 HI0.out.2.1 HI0.out.2.2.1 HI0.out.2.2.2 rfl (by decide) (.slice po P.length pc) P.length (iv (zs P)) rfl (iown_keep (HI.out.up HB2.out).own fun k hk => Below.heap_alloc _ _ _ ((HI.out.up HB2.out).own.lt k hk).2) ⟨y2.heap.size, 0, none⟩ 1 1 (iv (zs [i])) rfl rfl (new_cellsU y2 (iv (zs [i])) 3) (ivz_one _) (by decide) (by unfold maxLen; omega) (by omega) (by have := (HI.out.up HB2.out).bel.size; simp; omega) _ rfl ?_; intro g5 cap5 w5 hown5 hgr5 hor5 hlt5; have H5 : Hid (LayI h T 65537 X0 w5 (.slice (some ⟨g5, 0, none⟩) (P ++ [i]).length cap5) (.slice (some ⟨gq, 0, none⟩) W1.length qc) (P ++ [i]) W1 ∧ sumZ h W1 < sumZ h (W1 ++ [i])) := HI.out.add HP.out.1 HPL2.out (btrU HB2.out ((Below.refl _ y2).alloc (Nat.le_refl _) _)) hown5 hgr5 hor5; clear hown5 hgr5 hor5 hlt5)
                go_roundw
                case rel => exact ⟨P ++ [i], W1, some ⟨g5, 0, none⟩, some ⟨gq, 0, none⟩, cap5, qc, by simp, rfl, H5.out.1⟩
                case measure =>
                  have q1 := rd_own H5.out.1.wow
                  have q2 := HME.out
                  have q3 := H5.out.2
                  simp only [List.length_append, List.length_cons, List.length_nil] at q1 q2 ⊢
                  rw [q1, q2]
                  exact q3
  · have j1 : decide (E = (0, [])) = false := by simpa using hc
    have HTA : Hid (lkE h i = E ∧ lkL h i = []) := by
      have e1 : ¬ chk h = (0, []) := by rw [HE.out]; exact hc
      have e2 := lkE_chk (i := i) e1
      exact ⟨e2.trans HE.out, lkL_bad (by rw [e2]; exact e1)⟩
    clear hc
    have HF : Hid (∀ wx, Below w3.heap.size w3 wx → wx.heap[q]? = some (.cells #[.int .i64 E.1, .slice lo E.2.length lc] 36) ∧ HasPlaces wx (.slice lo E.2.length lc) E.2 ∧ wx.heap[z + 1]? = some (.cells #[.int .i64 0, .slice none 0 0] 36) ∧ Below w.heap.size w wx) := fun wx hx => by
      obtain ⟨g1, g2, g3⟩ := H2.out wx (btrH' HB3.out hx)
      obtain ⟨_, a2, _, a4⟩ := HQ.out wx g3
      exact ⟨g1, g2, a2, a4⟩
    obtain ⟨q0, q1, _, _⟩ := cell_two (HF.out w3 (Below.refl _ _)).1
    go_wp2_with fail
    refine (Hi.bad_calls E.1 lo E.2.length lc w3).mono ?_
    rintro e y9 ⟨rfl, hb⟩
    rw [bad_iff]
    have HB9 : Hid (Below w3.heap.size w3 y9) := hb
    clear hb q0 q1
    go_wp2_with fail
    have HSS : Hid (∀ wx : World, wx.heap[q]? = some (.cells #[.int .i64 E.1, .slice lo E.2.length lc] 36) → (fun w' : World => w'.cell? ⟨q, 0, none⟩ = some (.int .i64 E.1) ∧ w'.cell? ⟨q, 1, none⟩ = some (.slice lo E.2.length lc) ∧ Hid (w'.heap[q]? = some (.cells #[.int .i64 E.1, .slice lo E.2.length lc] 36))) wx) := fun wx hx => by
      obtain ⟨b0, b1, _, _⟩ := cell_two hx
      exact ⟨b0, b1, hx⟩
    have HNE : Hid (q ≠ z + 1) := by have := HS0.out; have := HQ0.out; show q ≠ z + 1; omega
    refine wp_region_M (S := (fun w' : World => w'.cell? ⟨q, 0, none⟩ = some (.int .i64 E.1) ∧ w'.cell? ⟨q, 1, none⟩ = some (.slice lo E.2.length lc) ∧ Hid (w'.heap[q]? = some (.cells #[.int .i64 E.1, .slice lo E.2.length lc] 36)))) (by kernel_rfl) (HSS.out _ (HF.out _ (btrH' HB9.out (Below.refl _ _).drew)).1) ?_
    refine wpAnyM_take (i := 0) (oi := ⟨some 29, .load 36 (.tmp 6), 36, "ref.go:22", #[⟨1, .gcOnly .lateStores⟩], none⟩) (v := ?va1z0) rfl (by kernel_rfl) (by kernel_rfl) (by kernel_rfl) (fun _ _ _ h => h) (YieldsM.of_if (Or.inl ⟨by rfl, ?ha1z0⟩)) ?ra1z0
    case ha1z0 => ((intro wz hSw; (try dsimp only at hSw); go_simp); try (with_reducible rfl))
    try simp only [Act.put, List.setIfInBounds_toArray, List.set_cons_zero, List.set_cons_succ]
    refine wpAnyM_take (i := 1) (oi := ⟨some 4, .assign (.const (.slice none 0 0)), 28, "ref.go:22", #[⟨0, .textOnly .lateStores⟩], none⟩) (v := ?va2z1) rfl (by kernel_rfl) (by kernel_rfl) (by kernel_rfl) (fun _ _ _ h => h) (YieldsM.of_if (Or.inl ⟨by rfl, ?ha2z1⟩)) ?ra2z1
    case ha2z1 => ((intro wz hSw; (try dsimp only at hSw); go_simp); try (with_reducible rfl))
    try simp only [Act.put, List.setIfInBounds_toArray, List.set_cons_zero, List.set_cons_succ]
    refine readyM (i := 2) (o := ⟨none, .store 36 (.tmp 5) (.tmp 29), 0, "ref.go:22", #[⟨0, .data⟩, ⟨1, .chain⟩, ⟨0, .phase⟩, ⟨1, .phase⟩], none⟩) rfl (by kernel_rfl) ?_
    intro u3 hg3 hS3 K hK
    obtain ⟨g1, g2, g4, g5⟩ := HF.out u3 (btrH' HB9.out (btrH' (Below.refl _ _).drew hg3))
    obtain ⟨d0, d1, f0, f1⟩ := cell_two g4
    have HT4 : Hid (((u3.setCell ⟨z + 1, 0, none⟩ (.int .i64 E.1)).setCell ⟨z + 1, 1, none⟩ (.slice lo E.2.length lc)).heap[z + 1]? = some (.cells #[.int .i64 E.1, .slice lo E.2.length lc] 36) ∧ ((u3.setCell ⟨z + 1, 0, none⟩ (.int .i64 E.1)).setCell ⟨z + 1, 1, none⟩ (.slice lo E.2.length lc)).heap[q]? = some (.cells #[.int .i64 E.1, .slice lo E.2.length lc] 36) ∧ HasPlaces ((u3.setCell ⟨z + 1, 0, none⟩ (.int .i64 E.1)).setCell ⟨z + 1, 1, none⟩ (.slice lo E.2.length lc)) (.slice lo E.2.length lc) E.2 ∧ Below w.heap.size w ((u3.setCell ⟨z + 1, 0, none⟩ (.int .i64 E.1)).setCell ⟨z + 1, 1, none⟩ (.slice lo E.2.length lc))) := ⟨set_err g4 _ _, (Below.heap_setCell _ _ _ _ (by exact HNE.out)).trans ((Below.heap_setCell _ _ _ _ (by exact HNE.out)).trans g1), pl_sets (F := E) g4 g2 _ _, HSZ.out _ _ _ g5⟩
    clear hS3 g1 g2 g4 g5 hg3
    go_simp
    refine hK.out _ _ (HSS.out _ HT4.out.2.1) ?_
    clear hK K d0 d1 f0 f1
    try simp only [Act.put, List.setIfInBounds_toArray, List.set_cons_zero, List.set_cons_succ]
    generalize ((u3.setCell ⟨z + 1, 0, none⟩ (.int .i64 E.1)).setCell ⟨z + 1, 1, none⟩ (.slice lo E.2.length lc)) = U4 at HT4 ⊢
    refine wpAnyM_done (by kernel_rfl) ?_ _
    intro u9 hg9 hS9
    have H9 : Hid (u9.heap[z + 1]? = some (.cells #[.int .i64 E.1, .slice lo E.2.length lc] 36) ∧ HasPlaces u9 (.slice lo E.2.length lc) E.2 ∧ Below w.heap.size w u9) := ⟨(Below.block hg9 _ (some_lt HT4.out.1)).trans HT4.out.1, HT4.out.2.2.1.keep hg9, HT4.out.2.2.2.trans (hg9.mono HT4.out.2.2.2.size)⟩
    clear hS9 hg9 HT4
    go_wp2
    exact bodyPost_ret (docLinks_res H9.out.1 rfl rfl) rfl (DL.bad HTA.out.1 HTA.out.2 H9.out.2.1 H9.out.2.2)
theorem docLinks_calls (v : HV) (h : Hr) (i : Int) (w : World) (hH : HasH w v h) (hb1 : h.up.length ≤ 1152921504606846976) (hb2 : h.dn.length ≤ 1152921504606846976) (hb3 : h.node.length ≤ 1152921504606846976) :
    Calls Tryz.prog 11 #[hvl v h, .int .i64 i] w (DL (lkE h i) (lkL h i) w) :=
  docLinks_aux v.no v.uo v.ul v.wo v.dl v.nc v.uc v.ulc v.wc v.dlc h i w hH hb1 hb2 hb3
end Go.Proofs.YtodilocmfdeehaaGreatDoor.Hi

namespace Go.Proofs.YtodilocmfdeehaaGreatDoor.Hi
open Go.RowKit Go.Extern Go.Shelf

attribute [local go_sem] Oper.semAt_some

theorem docNodes_res {W : World} {y : Nat} {u y0 y1 : Value} {tmps : Array Value} (h2 : W.heap[y]? = some (.cells #[y0, y1] 36)) (t2 : tmps[4]?.getD undef = u) (t3 : tmps[5]?.getD undef = .pointer (some ⟨y, 0, none⟩)) :
    (results Tryz.f16 tmps).run Tryz.prog W = .ok (.tuple #[u, .agg #[y0, y1]]) W := by
  obtain ⟨d0, d1, _, _⟩ := cell_two h2
  simp [results, Tryz.results16, go_sem, t2, t3, d0, d1]
theorem build_i1 (a : Int) (wx : World) : (Instr.buildSlice 28 1 #[(0, .int .i64 a)]).run Tryz.prog wx = .ok (.slice (some ⟨wx.heap.size, 0, none⟩) 1 1) (wx.alloc (.cells #[.int .i64 a] 3)) := by kernel_rfl
theorem nal_snoc {h : Hr} {a : Nat} {L : List Nat} {k x : Nat} (hx : L[k]? = some x) : ndR h (alR h a (L.take (k + 1))) = ndR h (alR h a (L.take k)) ++ [nth h.node (lkO h x).head] := by
  rw [alR_snoc hx]; simp [ndR]
theorem flat_first {h : Hr} (hc : chk h = (0, [])) {k : Nat} (hk : k < (stds h).length) : ∃ f0, (flatI h k)[0]? = some f0 ∧ (lkO h f0).tail = (lkO h k).tail := by
  obtain ⟨h1, h2⟩ := flat_chain hc _ k hk (Nat.lt_succ_self _)
  have e : flatI h k = flat h ((lkO h k).rk + 1) k := rfl
  rw [e]
  generalize flat h ((lkO h k).rk + 1) k = F at *
  cases F with
  | nil => exact absurd rfl h2
  | cons f r => exact ⟨f, rfl, h1.2.2.1⟩

set_option maxRecDepth 100000 in
set_option maxHeartbeats 8000000 in
theorem docNodes_aux (no uo ul wo dl : Option Addr) (nc uc ulc wc dlc : Nat) (h : Hr) (i : Int) (w : World) (hH : HasH w ⟨no, uo, ul, wo, dl, nc, uc, ulc, wc, dlc⟩ h) (hb1 : h.up.length ≤ 1152921504606846976) (hb2 : h.dn.length ≤ 1152921504606846976) (hb3 : h.node.length ≤ 1152921504606846976) :
    Calls Tryz.prog 16 #[.agg #[.slice no h.node.length nc, .slice uo h.upF.length uc, .slice ul h.up.length ulc, .slice wo h.dnF.length wc, .slice dl h.dn.length dlc], .int .i64 i] w (DL (lkE h i) (lkN h i) w) := by
  obtain ⟨z, hz⟩ : ∃ z, w.heap.size = z := ⟨_, rfl⟩
  obtain ⟨W0, hW0⟩ : ∃ W0, (w.alloc (.cells #[.slice no h.node.length nc, .slice uo h.upF.length uc, .slice ul h.up.length ulc, .slice wo h.dnF.length wc, .slice dl h.dn.length dlc] 25)).alloc (.cells #[.int .i64 0, .slice none 0 0] 36) = W0 := ⟨_, rfl⟩
  have hB0 : Below w.heap.size w W0 := by rw [← hW0]; exact ((Below.refl _ w).alloc (Nat.le_refl _) _).alloc (by simp) _
  have h0 : W0.heap[z]? = some (.cells #[.slice no h.node.length nc, .slice uo h.upF.length uc, .slice ul h.up.length ulc, .slice wo h.dnF.length wc, .slice dl h.dn.length dlc] 25) := by
    rw [← hW0, ← hz]; exact (Below.heap_alloc _ _ _ (by simp)).trans (heap_newW _ _)
  have h1 : W0.heap[z + 1]? = some (.cells #[.int .i64 0, .slice none 0 0] 36) := by
    have g := heap_newW (w.alloc (.cells #[.slice no h.node.length nc, .slice uo h.upF.length uc, .slice ul h.up.length ulc, .slice wo h.dnF.length wc, .slice dl h.dn.length dlc] 25)) (.cells #[.int .i64 0, .slice none 0 0] 36)
    rw [World.size_alloc, hW0, hz] at g
    exact g
  have HS0 : Hid (z + 1 < W0.heap.size) := some_lt h1
  have HQ : Hid (∀ wx, Below W0.heap.size W0 wx → wx.heap[z]? = some (.cells #[.slice no h.node.length nc, .slice uo h.upF.length uc, .slice ul h.up.length ulc, .slice wo h.dnF.length wc, .slice dl h.dn.length dlc] 25) ∧ wx.heap[z + 1]? = some (.cells #[.int .i64 0, .slice none 0 0] 36) ∧ HasH wx ⟨no, uo, ul, wo, dl, nc, uc, ulc, wc, dlc⟩ h ∧ Below w.heap.size w wx) := fun wx hx => by
    have g := hB0.trans (hx.mono hB0.size)
    exact ⟨(hx.block _ (some_lt h0)).trans h0, (hx.block _ (some_lt h1)).trans h1, hH.keep g, g⟩
  have HSZ : Hid (∀ (wx : World) (x y : Value), Below w.heap.size w wx → Below w.heap.size w ((wx.setCell ⟨z + 1, 0, none⟩ x).setCell ⟨z + 1, 1, none⟩ y)) := fun wx x y hx => (hx.setCell (p := ⟨z + 1, 0, none⟩) (by show w.heap.size ≤ z + 1; omega) _).setCell (p := ⟨z + 1, 1, none⟩) (by show w.heap.size ≤ z + 1; omega) _
  have HW0 : Hid ((w.alloc (.cells #[.slice no h.node.length nc, .slice uo h.upF.length uc, .slice ul h.up.length ulc, .slice wo h.dnF.length wc, .slice dl h.dn.length dlc] 25)).alloc (.cells #[.int .i64 0, .slice none 0 0] 36) = W0) := hW0
  have HZZ : Hid (w.heap.size = z) := hz
  obtain ⟨E, hE⟩ : ∃ E, lkE h i = E := ⟨_, rfl⟩
  obtain ⟨F, hF⟩ : ∃ F, lkL h i = F := ⟨_, rfl⟩
  have HDL : Hid (Calls Tryz.prog 11 #[.agg #[.slice no h.node.length nc, .slice uo h.upF.length uc, .slice ul h.up.length ulc, .slice wo h.dnF.length wc, .slice dl h.dn.length dlc], .int .i64 i] W0 (DL E F W0)) := by
    have g := docLinks_calls ⟨no, uo, ul, wo, dl, nc, uc, ulc, wc, dlc⟩ h i W0 (hH.keep hB0) hb1 hb2 hb3
    rw [hE, hF] at g
    exact g
  have HE : Hid (lkE h i = E ∧ lkL h i = F) := ⟨hE, hF⟩
  rw [hE]
  obtain ⟨c0, c1, c2, c3, c4⟩ := five_cells h0
  clear hW0 h0 h1 hB0 hH hb1 hb2 hb3 hE hF
  go_enter Tryz.func16, Tryz.ntmps16
  go_upto_region 1 with fail
  rw [HW0.out]
  clear HW0 hz
  go_wp2_with fail
  refine HDL.out.mono ?_
  rintro e w1 ⟨ao, ac, lo, lc, rfl, hgr, hp⟩
  obtain ⟨q, hq⟩ : ∃ q, w1.heap.size = q := ⟨_, rfl⟩
  obtain ⟨W2, hW2⟩ : ∃ W2, w1.alloc (.cells #[.int .i64 E.1, .slice lo E.2.length lc] 36) = W2 := ⟨_, rfl⟩
  have HW2 : Hid (w1.alloc (.cells #[.int .i64 E.1, .slice lo E.2.length lc] 36) = W2) := hW2
  have H2 : Hid (∀ wx, Below W2.heap.size W2 wx → wx.heap[q]? = some (.cells #[.int .i64 E.1, .slice lo E.2.length lc] 36) ∧ HasPlaces wx (.slice lo E.2.length lc) E.2 ∧ wx.heap[z]? = some (.cells #[.slice no h.node.length nc, .slice uo h.upF.length uc, .slice ul h.up.length ulc, .slice wo h.dnF.length wc, .slice dl h.dn.length dlc] 25) ∧ wx.heap[z + 1]? = some (.cells #[.int .i64 0, .slice none 0 0] 36) ∧ HasH wx ⟨no, uo, ul, wo, dl, nc, uc, ulc, wc, dlc⟩ h ∧ Below w.heap.size w wx ∧ wx.ownsRow W0.heap.size 3 1 (.slice ao F.length ac) F.length (iv (zs F))) := fun wx hx => by
    have g1 : W2.heap[q]? = some (.cells #[.int .i64 E.1, .slice lo E.2.length lc] 36) := by rw [← hW2, ← hq]; exact heap_newW _ _
    have g2 : Below w1.heap.size w1 W2 := by rw [← hW2]; exact (Below.refl _ _).alloc (Nat.le_refl _) _
    have g3 := btrH' g2 hx
    obtain ⟨a1, a2, a3, a4⟩ := HQ.out wx (btrH' hgr.bel g3)
    exact ⟨(hx.block _ (some_lt g1)).trans g1, hp.keep g3, a1, a2, a3, a4, (hgr.up g3).own⟩
  have HQ0 : Hid (W0.heap.size ≤ q) := by rw [← hq]; exact hgr.bel.size
  have HNE : Hid (q ≠ z + 1) := by have := HS0.out; have := HQ0.out; show q ≠ z + 1; omega
  clear hp hgr hW2 c0 c1 c2 c3 c4
  go_upto_region 2 with fail
  rw [HW2.out]
  clear HW2 hq
  obtain ⟨q0, q1, _, _⟩ := cell_two (H2.out W2 (Below.refl _ _)).1
  go_wp2_with fail
  refine (Hi.bad_calls E.1 lo E.2.length lc W2).mono ?_
  rintro e w3 ⟨rfl, hb⟩
  rw [bad_iff]
  have HB3 : Hid (Below W2.heap.size W2 w3) := hb
  clear hb q0 q1
  by_cases hc : E = (0, [])
  · subst hc
    obtain ⟨hc, k, hk0, hk, hle⟩ := lkE_inv HE.out.1
    subst hk0
    have hks : k < (stds h).length := by rw [stds_len (chk_ok hc).2.2.2.2.1 (chk_ok hc).2.2.2.2.2.1]; exact hk
    obtain ⟨f0, hf0, htl0⟩ := flat_first hc hks
    have eF : flatI h k = F := by rw [← lkL_ok HE.out.1]; exact HE.out.2
    rw [eF] at hf0
    have HN0 : Hid (lkN h (k : Int) = ndR h (alR h (lkO h k).tail F)) := by show _ = _; rw [lkN_ok HE.out.1, eF]
    have HFA : Hid (∀ j ∈ F, j < (stds h).length) := by rw [← eF]; exact flatI_all hc hks
    have HFL : Hid (F.length ≤ 131072) := by rw [← eF]; exact hle
    have HC : Hid (chk h = (0, [])) := hc
    have HK : Hid (k < (stds h).length ∧ F[0]? = some f0 ∧ (lkO h f0).tail = (lkO h k).tail) := ⟨hks, hf0, htl0⟩
    obtain ⟨k1, k2, k3, k4, k5, k6, _, _⟩ := chk_ok hc
    have HAR : Hid (∀ wx, HasH wx ⟨no, uo, ul, wo, dl, nc, uc, ulc, wc, dlc⟩ h → Calls Tryz.prog 24 #[.agg #[.slice no h.node.length nc, .slice uo h.upF.length uc, .slice ul h.up.length ulc, .slice wo h.dnF.length wc, .slice dl h.dn.length dlc]] wx fun e w' => ∃ mo mc, e = .returned (.slice mo (stds h).length mc) ∧ HasEs w' (.slice mo (stds h).length mc) h ∧ Below wx.heap.size wx w') := fun wx hH => arcsR_calls ⟨no, uo, ul, wo, dl, nc, uc, ulc, wc, dlc⟩ h wx hH k5 k6 (by omega) (by omega) k2
    have hnl : h.node.length ≤ 65536 := k1
    clear k1 k2 k3 k4 k5 k6 hc hk hle hks hf0 htl0 eF
    rename_i kz1 kz2
    clear kz1 kz2
    obtain ⟨c0, c1, c2, c3, c4⟩ := five_cells (H2.out w3 HB3.out).2.2.1
    go_wp2_with fail
    refine (HAR.out w3 (H2.out w3 HB3.out).2.2.2.2.1).mono ?_
    rintro e X0 ⟨eo, ec, rfl, hes, hb⟩
    have HX : Hid (∀ wx, Below X0.heap.size X0 wx → (wx.heap[q]? = some (.cells #[.int .i64 0, .slice lo 0 lc] 36) ∧ wx.heap[z]? = some (.cells #[.slice no h.node.length nc, .slice uo h.upF.length uc, .slice ul h.up.length ulc, .slice wo h.dnF.length wc, .slice dl h.dn.length dlc] 25) ∧ wx.heap[z + 1]? = some (.cells #[.int .i64 0, .slice none 0 0] 36) ∧ HasH wx ⟨no, uo, ul, wo, dl, nc, uc, ulc, wc, dlc⟩ h ∧ Below w.heap.size w wx ∧ wx.ownsRow W0.heap.size 3 1 (.slice ao F.length ac) F.length (iv (zs F))) ∧ HasEs wx (.slice eo (stds h).length ec) h) := fun wx hx => by
      obtain ⟨g1, _, g3, g4, g5, g6, g7⟩ := H2.out wx (btrH' HB3.out (btrH' hb hx))
      exact ⟨⟨g1, g3, g4, g5, g6, g7⟩, hes.keep hx⟩
    clear hes hb c0 c1 c2 c3 c4
    have HZX : Hid (z + 1 < X0.heap.size ∧ w.heap.size ≤ X0.heap.size ∧ q < X0.heap.size) := ⟨some_lt (HX.out X0 (Below.refl _ _)).1.2.2.1, (HX.out X0 (Below.refl _ _)).1.2.2.2.2.1.size, some_lt (HX.out X0 (Below.refl _ _)).1.1⟩
    obtain ⟨tl, htl⟩ : ∃ tl, (lkO h k).tail = tl := ⟨_, rfl⟩
    have HTL : Hid ((lkO h k).tail = tl) := htl
    have hfs : f0 < (stds h).length := HFA.out f0 (List.mem_of_getElem? HK.out.2.1)
    have htn : tl < h.node.length := by rw [← htl]; exact (head_lt HC.out HK.out.1).2
    obtain ⟨gf, fcap, hga, _, hgl, _, _⟩ := iown_at (HX.out X0 (Below.refl _ _)).1.2.2.2.2.2 (by have := (List.getElem?_eq_some_iff.1 HK.out.2.1).1; omega)
    injection hga with hga1 hga2 hga3
    subst hga1 hga3
    clear hga2
    have HGC : Hid (∀ wx, Below X0.heap.size X0 wx → ∀ j a : Nat, F[j]? = some a → wx.cell? ⟨gf, j, none⟩ = some (.int .i64 (a : Int))) := fun wx hx j a hj => by
      obtain ⟨g2, cap2, e2, _, _, _, hc2⟩ := iown_at (HX.out wx hx).1.2.2.2.2.2 (by have := (List.getElem?_eq_some_iff.1 hj).1; omega)
      injection e2 with e3 _ _
      injection e3 with e3
      injection e3 with e3 _ _
      rw [e3]
      exact hc2 j a hj
    have HGL : Hid (∀ wx, Below X0.heap.size X0 wx → gf < wx.heap.size) := fun wx hx => Nat.lt_of_lt_of_le hgl hx.size
    obtain ⟨eb, heo, _, _⟩ := (HX.out X0 (Below.refl _ _)).2.at hfs
    subst heo
    have HEC : Hid (∀ wx, Below X0.heap.size X0 wx → ∀ j, j < (stds h).length → wx.cell? ⟨eb, j * 3, none⟩ = some (.int .i64 ((lkO h j).tail : Int)) ∧ wx.cell? ⟨eb, j * 3 + 1, none⟩ = some (.int .i64 ((lkO h j).head : Int)) ∧ eb < wx.heap.size) := fun wx hx j hj => by
      obtain ⟨b2, e2, ⟨g0, g1, _⟩, hl⟩ := (HX.out wx hx).2.at hj
      injection e2 with e2
      injection e2 with e2 _ _
      rw [e2]
      exact ⟨g0, g1, hl⟩
    obtain ⟨_, nb, noff, hno, _, _⟩ := ws_get (HX.out X0 (Below.refl _ _)).1.2.2.2.1.node (nth_get htn)
    dsimp only at hno
    subst hno
    have HNC : Hid (∀ wx, Below X0.heap.size X0 wx → ∀ r, r < h.node.length → nth h.node r < 4294967296 ∧ wx.cell? ⟨nb, noff + r, none⟩ = some (.int .u32 (nth h.node r : Int)) ∧ nb < wx.heap.size) := fun wx hx r hr => by
      obtain ⟨g0, b2, o2, e2, hl, g1⟩ := ws_get (HX.out wx hx).1.2.2.2.1.node (nth_get hr)
      injection e2 with e2
      injection e2 with e2 e3 _
      rw [e2, e3]
      exact ⟨g0, g1, hl⟩
    obtain ⟨tn, htn0⟩ : ∃ tn, nth h.node tl = tn := ⟨_, rfl⟩
    have HTN : Hid (nth h.node tl = tn) := htn0
    have tn1 : tn < 4294967296 := by rw [← htn0]; exact (HNC.out X0 (Below.refl _ _) tl htn).1
    have HSS : Hid (∀ wx, Below X0.heap.size X0 wx → (fun w' : World => w'.cell? ⟨z, 0, none⟩ = some (.slice (some ⟨nb, noff, none⟩) h.node.length nc) ∧ w'.cell? ⟨gf, 0, none⟩ = some (.int .i64 (f0 : Int)) ∧ w'.cell? ⟨eb, f0 * 3, none⟩ = some (.int .i64 (tl : Int)) ∧ w'.cell? ⟨nb, noff + tl, none⟩ = some (.int .u32 (tn : Int)) ∧ Hid (Below X0.heap.size X0 w')) wx) := fun wx hx => by
      obtain ⟨a0, _, _, _, _⟩ := five_cells (HX.out wx hx).1.2.1
      have a1 := HGC.out wx hx 0 f0 HK.out.2.1
      have a2 := (HEC.out wx hx f0 hfs).1
      have a3 := (HNC.out wx hx tl htn).2.1
      rw [HK.out.2.2, htl] at a2
      rw [htn0] at a3
      exact ⟨a0, a1, a2, a3, hx⟩
    have i3 : (0 : Int) ≤ (f0 : Int) := by omega
    have i4 : (f0 : Int) < ((stds h).length : Int) := by omega
    have i5 : (0 : Int) ≤ (tl : Int) := by omega
    have i6 : (tl : Int) < (h.node.length : Int) := by omega
    have i7 : IntKind.i64.wrap (tn : Int) = (tn : Int) := by rw [IntKind.wrap_i64] <;> omega
    have hFp : 0 < F.length := by have := (List.getElem?_eq_some_iff.1 HK.out.2.1).1; omega
    have i8 : (0 : Int) < (F.length : Int) := by omega
    have hFL := HFL.out
    clear htl htn0 hgl
    go_upto_region 5 with fail
    refine wp_region_M (S := (fun w' : World => w'.cell? ⟨z, 0, none⟩ = some (.slice (some ⟨nb, noff, none⟩) h.node.length nc) ∧ w'.cell? ⟨gf, 0, none⟩ = some (.int .i64 (f0 : Int)) ∧ w'.cell? ⟨eb, f0 * 3, none⟩ = some (.int .i64 (tl : Int)) ∧ w'.cell? ⟨nb, noff + tl, none⟩ = some (.int .u32 (tn : Int)) ∧ Hid (Below X0.heap.size X0 w'))) (by kernel_rfl) (HSS.out _ (Below.refl _ _).drew) ?_
    refine wpAnyM_take (i := 0) (oi := ⟨some 23, .fieldAddr 25 (.tmp 2) 0, 0, "ref.go:49", #[], none⟩) (v := ?vf3z0) rfl (by kernel_rfl) (by kernel_rfl) (by kernel_rfl) (fun _ _ _ h => h) (YieldsM.of_if (Or.inl ⟨by rfl, ?hf3z0⟩)) ?rf3z0
    case hf3z0 => ((intro wz hSw; (try dsimp only at hSw); go_simp); try (with_reducible rfl))
    try simp only [Act.put, List.setIfInBounds_toArray, List.set_cons_zero, List.set_cons_succ]
    refine wpAnyM_take (i := 1) (oi := ⟨some 24, .load 22 (.tmp 23), 22, "ref.go:49", #[⟨0, .data⟩], none⟩) (v := ?vf4z1) rfl (by kernel_rfl) (by kernel_rfl) (by kernel_rfl) (fun _ _ _ h => h) (YieldsM.of_if (Or.inl ⟨by rfl, ?hf4z1⟩)) ?rf4z1
    case hf4z1 => ((intro wz hSw; (try dsimp only at hSw); go_simp); try (with_reducible rfl))
    try simp only [Act.put, List.setIfInBounds_toArray, List.set_cons_zero, List.set_cons_succ]
    refine wpAnyM_take (i := 2) (oi := ⟨some 25, .move (.tmp 8), 56, "ref.go:49", #[], none⟩) (v := ?vf5z2) rfl (by kernel_rfl) (by kernel_rfl) (by kernel_rfl) (fun _ _ _ h => h) (YieldsM.of_if (Or.inl ⟨by rfl, ?hf5z2⟩)) ?rf5z2
    case hf5z2 => ((intro wz hSw; (try dsimp only at hSw); go_simp); try (with_reducible rfl))
    try simp only [Act.put, List.setIfInBounds_toArray, List.set_cons_zero, List.set_cons_succ]
    refine wpAnyM_take (i := 3) (oi := ⟨some 26, .move (.tmp 6), 28, "ref.go:49", #[], none⟩) (v := ?vf6z3) rfl (by kernel_rfl) (by kernel_rfl) (by kernel_rfl) (fun _ _ _ h => h) (YieldsM.of_if (Or.inl ⟨by rfl, ?hf6z3⟩)) ?rf6z3
    case hf6z3 => ((intro wz hSw; (try dsimp only at hSw); go_simp); try (with_reducible rfl))
    try simp only [Act.put, List.setIfInBounds_toArray, List.set_cons_zero, List.set_cons_succ]
    refine wpAnyM_take (i := 4) (oi := ⟨some 27, .indexAddr 28 (.tmp 26) (.const (.int .i64 0)), 0, "ref.go:49", #[⟨3, .data⟩], none⟩) (v := ?vf7z4) rfl (by kernel_rfl) (by kernel_rfl) (by kernel_rfl) (fun _ _ _ h => h) (YieldsM.of_if (Or.inl ⟨by rfl, ?hf7z4⟩)) ?rf7z4
    case hf7z4 => ((intro wz hSw; (try dsimp only at hSw); go_simp); try (with_reducible rfl))
    try simp only [Act.put, List.setIfInBounds_toArray, List.set_cons_zero, List.set_cons_succ]
    refine wpAnyM_take (i := 5) (oi := ⟨some 28, .load 3 (.tmp 27), 3, "ref.go:49", #[⟨4, .data⟩], none⟩) (v := ?vf8z5) rfl (by kernel_rfl) (by kernel_rfl) (by kernel_rfl) (fun _ _ _ h => h) (YieldsM.of_if (Or.inl ⟨by rfl, ?hf8z5⟩)) ?rf8z5
    case hf8z5 => ((intro wz hSw; (try dsimp only at hSw); go_simp); try (with_reducible rfl))
    try simp only [Act.put, List.setIfInBounds_toArray, List.set_cons_zero, List.set_cons_succ]
    refine wpAnyM_take (i := 6) (oi := ⟨some 29, .indexAddr 56 (.tmp 25) (.tmp 28), 0, "ref.go:49", #[⟨2, .data⟩, ⟨5, .data⟩], none⟩) (v := ?vf9z6) rfl (by kernel_rfl) (by kernel_rfl) (by kernel_rfl) (fun _ _ _ h => h) (YieldsM.of_if (Or.inl ⟨by rfl, ?hf9z6⟩)) ?rf9z6
    case hf9z6 => ((intro wz hSw; (try dsimp only at hSw); go_simp); try (with_reducible rfl))
    try simp only [Act.put, List.setIfInBounds_toArray, List.set_cons_zero, List.set_cons_succ]
    refine wpAnyM_take (i := 7) (oi := ⟨some 30, .fieldAddr 59 (.tmp 29) 0, 0, "ref.go:49", #[⟨6, .data⟩], none⟩) (v := ?vf10z7) rfl (by kernel_rfl) (by kernel_rfl) (by kernel_rfl) (fun _ _ _ h => h) (YieldsM.of_if (Or.inl ⟨by rfl, ?hf10z7⟩)) ?rf10z7
    case hf10z7 => ((intro wz hSw; (try dsimp only at hSw); go_simp); try (with_reducible rfl))
    try simp only [Act.put, List.setIfInBounds_toArray, List.set_cons_zero, List.set_cons_succ]
    refine wpAnyM_take (i := 8) (oi := ⟨some 31, .load 3 (.tmp 30), 3, "ref.go:49", #[⟨7, .data⟩], none⟩) (v := ?vf11z8) rfl (by kernel_rfl) (by kernel_rfl) (by kernel_rfl) (fun _ _ _ h => h) (YieldsM.of_if (Or.inl ⟨by rfl, ?hf11z8⟩)) ?rf11z8
    case hf11z8 => ((intro wz hSw; (try dsimp only at hSw); go_simp); try (with_reducible rfl))
    try simp only [Act.put, List.setIfInBounds_toArray, List.set_cons_zero, List.set_cons_succ]
    refine wpAnyM_take (i := 9) (oi := ⟨some 32, .indexAddr 22 (.tmp 24) (.tmp 31), 0, "ref.go:49", #[⟨1, .data⟩, ⟨8, .data⟩], none⟩) (v := ?vf12z9) rfl (by kernel_rfl) (by kernel_rfl) (by kernel_rfl) (fun _ _ _ h => h) (YieldsM.of_if (Or.inl ⟨by rfl, ?hf12z9⟩)) ?rf12z9
    case hf12z9 => ((intro wz hSw; (try dsimp only at hSw); go_simp); try (with_reducible rfl))
    try simp only [Act.put, List.setIfInBounds_toArray, List.set_cons_zero, List.set_cons_succ]
    refine wpAnyM_take (i := 10) (oi := ⟨some 33, .load 62 (.tmp 32), 62, "ref.go:49", #[⟨9, .data⟩], none⟩) (v := ?vf13z10) rfl (by kernel_rfl) (by kernel_rfl) (by kernel_rfl) (fun _ _ _ h => h) (YieldsM.of_if (Or.inl ⟨by rfl, ?hf13z10⟩)) ?rf13z10
    case hf13z10 => ((intro wz hSw; (try dsimp only at hSw); go_simp); try (with_reducible rfl))
    try simp only [Act.put, List.setIfInBounds_toArray, List.set_cons_zero, List.set_cons_succ]
    refine wpAnyM_take (i := 11) (oi := ⟨some 34, .convert 62 3 (.tmp 33), 3, "ref.go:49", #[⟨10, .data⟩], none⟩) (v := ?vf14z11) rfl (by kernel_rfl) (by kernel_rfl) (by kernel_rfl) (fun _ _ _ h => h) (YieldsM.of_if (Or.inl ⟨by rfl, ?hf14z11⟩)) ?rf14z11
    case hf14z11 => ((intro wz hSw; (try dsimp only at hSw); go_simp); try (with_reducible rfl))
    try simp only [Act.put, List.setIfInBounds_toArray, List.set_cons_zero, List.set_cons_succ]
    refine readyM (i := 12) (o := ⟨some 35, .buildSlice 28 1 #[(0, .tmp 34)], 28, "ref.go:49", #[⟨11, .data⟩], none⟩) rfl (by kernel_rfl) ?_
    intro u1 hg1 hS1 K hK
    have hbs := build_i1 (tn : Int)
    have b1 : Below X0.heap.size X0 u1 := hS1.2.2.2.2.out
    have Y0 : Hid (GrI X0 (u1.alloc (.cells #[.int .i64 (tn : Int)] 3)) (.slice (some ⟨u1.heap.size, 0, none⟩) (ndR h (alR h tl (F.take 0))).length 1) (ndR h (alR h tl (F.take 0)))) := by
      have e : ndR h (alR h tl (F.take 0)) = [tn] := by rw [← HTN.out]; rfl
      show GrI _ _ _ _
      rw [e]
      exact ⟨⟨rfl, Or.inr ⟨u1.heap.size, 1, _, rfl, b1.size, heap_newW _ _, Nat.le_refl _, by unfold maxLen; decide, rfl, rfl⟩⟩, b1.alloc b1.size _⟩
    clear hS1 hg1 b1
    go_simp
    refine hK.out _ _ (HSS.out _ Y0.out.bel) ?_
    clear hK K hbs
    obtain ⟨g, hgg⟩ : ∃ g, u1.heap.size = g := ⟨_, rfl⟩
    rw [hgg] at Y0 ⊢
    generalize u1.alloc (.cells #[.int .i64 (tn : Int)] 3) = U2 at Y0 ⊢
    clear hgg
    try simp only [Act.put, List.setIfInBounds_toArray, List.set_cons_zero, List.set_cons_succ]
    refine wpAnyM_take (i := 13) (oi := ⟨some 9, .assign (.tmp 35), 28, "ref.go:49", #[⟨12, .data⟩, ⟨0, .phase⟩, ⟨1, .phase⟩, ⟨2, .phase⟩, ⟨3, .phase⟩, ⟨4, .phase⟩, ⟨5, .phase⟩, ⟨6, .phase⟩, ⟨7, .phase⟩, ⟨8, .phase⟩, ⟨9, .phase⟩, ⟨10, .phase⟩, ⟨11, .phase⟩, ⟨12, .phase⟩], none⟩) (v := ?vf15z13) rfl (by kernel_rfl) (by kernel_rfl) (by kernel_rfl) (fun _ _ _ h => h) (YieldsM.of_if (Or.inl ⟨by rfl, ?hf15z13⟩)) ?rf15z13
    case hf15z13 => ((intro wz hSw; (try dsimp only at hSw); go_simp); try (with_reducible rfl))
    try simp only [Act.put, List.setIfInBounds_toArray, List.set_cons_zero, List.set_cons_succ]
    refine wpAnyM_done (by kernel_rfl) ?_ _
    intro u2 hg2 hS2
    have Y1 : Hid (GrI X0 u2 (.slice (some ⟨g, 0, none⟩) (ndR h (alR h tl (F.take 0))).length 1) (ndR h (alR h tl (F.take 0)))) := Y0.out.up hg2
    clear hS2 hg2 Y0
    clear i3 i4 i5 i6 i7
    obtain ⟨i0, hi0⟩ := infoI
    have HI0 : Hid (Tryz.prog.info? 3 = some i0 ∧ i0.zero = some (.int .i64 0) ∧ i0.size = 1 ∧ i0.bytes = 8) := hi0
    clear hi0
    go_wp2_with fail
    go_loopw [9, 38] (fun pv jv wr => ∃ (j : Nat) (po : Option Addr) (pc : Nat), j ≤ F.length ∧ jv = .int .i64 (j : Int) ∧ pv = .slice po (j + 1) pc ∧ Hid (GrI X0 wr (.slice po (ndR h (alR h tl (F.take j))).length pc) (ndR h (alR h tl (F.take j))))) (fun _ jv _ => F.length - (intOf jv).toNat)
    case atStart => exact ⟨0, some ⟨g, 0, none⟩, 1, Nat.zero_le _, rfl, rfl, Y1.out⟩
    case round =>
      obtain ⟨j, po, pc, hj, rfl, rfl, HG⟩ := hrel
      have HLN : Hid ((ndR h (alR h tl (F.take j))).length = j + 1) := by show _ = _; rw [ndR_len, alR_len, List.length_take]; omega
      by_cases hlt : j < F.length
      · have d1 : decide ((j : Int) < (F.length : Int)) = true := by simp; omega
        obtain ⟨x, hx⟩ : ∃ x, F[j]? = some x := ⟨F[j], List.getElem?_eq_getElem hlt⟩
        have hxs := HFA.out x (List.mem_of_getElem? hx)
        have q0 := HGC.out wr HG.out.bel j x hx
        have hgl := HGL.out wr HG.out.bel
        obtain ⟨hd, hhd⟩ : ∃ hd, (lkO h x).head = hd := ⟨_, rfl⟩
        have hhn : hd < h.node.length := by rw [← hhd]; exact (head_lt HC.out hxs).1
        obtain ⟨hn, hhn0⟩ : ∃ hn, nth h.node hd = hn := ⟨_, rfl⟩
        have hn1 : hn < 4294967296 := by rw [← hhn0]; exact (HNC.out X0 (Below.refl _ _) hd hhn).1
        have HXX : Hid (F[j]? = some x ∧ nth h.node (lkO h x).head = hn) := ⟨hx, by rw [hhd]; exact hhn0⟩
        have HS9 : Hid (∀ wx, Below X0.heap.size X0 wx → (fun w' : World => w'.cell? ⟨z, 0, none⟩ = some (.slice (some ⟨nb, noff, none⟩) h.node.length nc) ∧ w'.cell? ⟨eb, x * 3 + 1, none⟩ = some (.int .i64 (hd : Int)) ∧ w'.cell? ⟨nb, noff + hd, none⟩ = some (.int .u32 (hn : Int)) ∧ Hid (w'.cell? ⟨z, 0, none⟩ = some (.slice (some ⟨nb, noff, none⟩) h.node.length nc) ∧ w'.cell? ⟨eb, x * 3 + 1, none⟩ = some (.int .i64 (hd : Int)) ∧ w'.cell? ⟨nb, noff + hd, none⟩ = some (.int .u32 (hn : Int)))) wx) := fun wx hx => by
          obtain ⟨a0, _, _, _, _⟩ := five_cells (HX.out wx hx).1.2.1
          have a2 := (HEC.out wx hx x hxs).2.1
          have a3 := (HNC.out wx hx hd hhn).2.1
          rw [hhd] at a2
          rw [hhn0] at a3
          exact ⟨a0, a2, a3, a0, a2, a3⟩
        have i1 : (0 : Int) ≤ (j : Int) := by omega
        have i2 : (j : Int) < (F.length : Int) := by omega
        have i3 : (0 : Int) ≤ (x : Int) := by omega
        have i4 : (x : Int) < ((stds h).length : Int) := by omega
        have i5 : (0 : Int) ≤ (hd : Int) := by omega
        have i6 : (hd : Int) < (h.node.length : Int) := by omega
        have i7 : IntKind.i64.wrap (hn : Int) = (hn : Int) := by rw [IntKind.wrap_i64] <;> omega
        have i9 : IntKind.i64.wrap ((j : Int) + 1) = (j : Int) + 1 := by rw [IntKind.wrap_i64] <;> omega
        clear hx hhd hhn0
        go_upto_region 9 with fail
        refine wp_region_M (S := (fun w' : World => w'.cell? ⟨z, 0, none⟩ = some (.slice (some ⟨nb, noff, none⟩) h.node.length nc) ∧ w'.cell? ⟨eb, x * 3 + 1, none⟩ = some (.int .i64 (hd : Int)) ∧ w'.cell? ⟨nb, noff + hd, none⟩ = some (.int .u32 (hn : Int)) ∧ Hid (w'.cell? ⟨z, 0, none⟩ = some (.slice (some ⟨nb, noff, none⟩) h.node.length nc) ∧ w'.cell? ⟨eb, x * 3 + 1, none⟩ = some (.int .i64 (hd : Int)) ∧ w'.cell? ⟨nb, noff + hd, none⟩ = some (.int .u32 (hn : Int))))) (by kernel_rfl) (HS9.out _ (HG.out.bel.trans ((Below.refl _ _).drew.mono HG.out.bel.size))) ?_
        refine wpAnyM_take (i := 0) (oi := ⟨some 42, .move (.tmp 9), 28, "ref.go:51", #[], none⟩) (v := ?vm17z0) rfl (by kernel_rfl) (by kernel_rfl) (by kernel_rfl) (fun _ _ _ h => h) (YieldsM.of_if (Or.inl ⟨by rfl, ?hm17z0⟩)) ?rm17z0
        case hm17z0 => ((intro wz hSw; (try dsimp only at hSw); go_simp); try (with_reducible rfl))
        try simp only [Act.put, List.setIfInBounds_toArray, List.set_cons_zero, List.set_cons_succ]
        refine wpAnyM_take (i := 1) (oi := ⟨some 43, .fieldAddr 25 (.tmp 2) 0, 0, "ref.go:51", #[], none⟩) (v := ?vm18z1) rfl (by kernel_rfl) (by kernel_rfl) (by kernel_rfl) (fun _ _ _ h => h) (YieldsM.of_if (Or.inl ⟨by rfl, ?hm18z1⟩)) ?rm18z1
        case hm18z1 => ((intro wz hSw; (try dsimp only at hSw); go_simp); try (with_reducible rfl))
        try simp only [Act.put, List.setIfInBounds_toArray, List.set_cons_zero, List.set_cons_succ]
        refine wpAnyM_take (i := 2) (oi := ⟨some 44, .load 22 (.tmp 43), 22, "ref.go:51", #[⟨1, .data⟩], none⟩) (v := ?vm19z2) rfl (by kernel_rfl) (by kernel_rfl) (by kernel_rfl) (fun _ _ _ h => h) (YieldsM.of_if (Or.inl ⟨by rfl, ?hm19z2⟩)) ?rm19z2
        case hm19z2 => ((intro wz hSw; (try dsimp only at hSw); go_simp); try (with_reducible rfl))
        try simp only [Act.put, List.setIfInBounds_toArray, List.set_cons_zero, List.set_cons_succ]
        refine wpAnyM_take (i := 3) (oi := ⟨some 45, .move (.tmp 8), 56, "ref.go:51", #[], none⟩) (v := ?vm20z3) rfl (by kernel_rfl) (by kernel_rfl) (by kernel_rfl) (fun _ _ _ h => h) (YieldsM.of_if (Or.inl ⟨by rfl, ?hm20z3⟩)) ?rm20z3
        case hm20z3 => ((intro wz hSw; (try dsimp only at hSw); go_simp); try (with_reducible rfl))
        try simp only [Act.put, List.setIfInBounds_toArray, List.set_cons_zero, List.set_cons_succ]
        refine wpAnyM_take (i := 4) (oi := ⟨some 46, .move (.tmp 11), 3, "ref.go:51", #[], none⟩) (v := ?vm21z4) rfl (by kernel_rfl) (by kernel_rfl) (by kernel_rfl) (fun _ _ _ h => h) (YieldsM.of_if (Or.inl ⟨by rfl, ?hm21z4⟩)) ?rm21z4
        case hm21z4 => ((intro wz hSw; (try dsimp only at hSw); go_simp); try (with_reducible rfl))
        try simp only [Act.put, List.setIfInBounds_toArray, List.set_cons_zero, List.set_cons_succ]
        refine wpAnyM_take (i := 5) (oi := ⟨some 47, .indexAddr 56 (.tmp 45) (.tmp 46), 0, "ref.go:51", #[⟨3, .data⟩, ⟨4, .data⟩], none⟩) (v := ?vm22z5) rfl (by kernel_rfl) (by kernel_rfl) (by kernel_rfl) (fun _ _ _ h => h) (YieldsM.of_if (Or.inl ⟨by rfl, ?hm22z5⟩)) ?rm22z5
        case hm22z5 => ((intro wz hSw; (try dsimp only at hSw); go_simp); try (with_reducible rfl))
        try simp only [Act.put, List.setIfInBounds_toArray, List.set_cons_zero, List.set_cons_succ]
        refine wpAnyM_take (i := 6) (oi := ⟨some 48, .fieldAddr 59 (.tmp 47) 1, 0, "ref.go:51", #[⟨5, .data⟩], none⟩) (v := ?vm23z6) rfl (by kernel_rfl) (by kernel_rfl) (by kernel_rfl) (fun _ _ _ h => h) (YieldsM.of_if (Or.inl ⟨by rfl, ?hm23z6⟩)) ?rm23z6
        case hm23z6 => ((intro wz hSw; (try dsimp only at hSw); go_simp); try (with_reducible rfl))
        try simp only [Act.put, List.setIfInBounds_toArray, List.set_cons_zero, List.set_cons_succ]
        refine wpAnyM_take (i := 7) (oi := ⟨some 49, .load 3 (.tmp 48), 3, "ref.go:51", #[⟨6, .data⟩], none⟩) (v := ?vm24z7) rfl (by kernel_rfl) (by kernel_rfl) (by kernel_rfl) (fun _ _ _ h => h) (YieldsM.of_if (Or.inl ⟨by rfl, ?hm24z7⟩)) ?rm24z7
        case hm24z7 => ((intro wz hSw; (try dsimp only at hSw); go_simp); try (with_reducible rfl))
        try simp only [Act.put, List.setIfInBounds_toArray, List.set_cons_zero, List.set_cons_succ]
        refine wpAnyM_take (i := 8) (oi := ⟨some 50, .indexAddr 22 (.tmp 44) (.tmp 49), 0, "ref.go:51", #[⟨2, .data⟩, ⟨7, .data⟩], none⟩) (v := ?vm25z8) rfl (by kernel_rfl) (by kernel_rfl) (by kernel_rfl) (fun _ _ _ h => h) (YieldsM.of_if (Or.inl ⟨by rfl, ?hm25z8⟩)) ?rm25z8
        case hm25z8 => ((intro wz hSw; (try dsimp only at hSw); go_simp); try (with_reducible rfl))
        try simp only [Act.put, List.setIfInBounds_toArray, List.set_cons_zero, List.set_cons_succ]
        refine wpAnyM_take (i := 9) (oi := ⟨some 51, .load 62 (.tmp 50), 62, "ref.go:51", #[⟨8, .data⟩], none⟩) (v := ?vm26z9) rfl (by kernel_rfl) (by kernel_rfl) (by kernel_rfl) (fun _ _ _ h => h) (YieldsM.of_if (Or.inl ⟨by rfl, ?hm26z9⟩)) ?rm26z9
        case hm26z9 => ((intro wz hSw; (try dsimp only at hSw); go_simp); try (with_reducible rfl))
        try simp only [Act.put, List.setIfInBounds_toArray, List.set_cons_zero, List.set_cons_succ]
        refine wpAnyM_take (i := 10) (oi := ⟨some 52, .convert 62 3 (.tmp 51), 3, "ref.go:51", #[⟨9, .data⟩], none⟩) (v := ?vm27z10) rfl (by kernel_rfl) (by kernel_rfl) (by kernel_rfl) (fun _ _ _ h => h) (YieldsM.of_if (Or.inl ⟨by rfl, ?hm27z10⟩)) ?rm27z10
        case hm27z10 => ((intro wz hSw; (try dsimp only at hSw); go_simp); try (with_reducible rfl))
        try simp only [Act.put, List.setIfInBounds_toArray, List.set_cons_zero, List.set_cons_succ]
        refine readyM (i := 11) (o := ⟨some 53, .buildSlice 28 1 #[(0, .tmp 52)], 28, "ref.go:51", #[⟨10, .data⟩], none⟩) rfl (by kernel_rfl) ?_
        intro u1 hg1 hS1 K hK
        have hbs := build_i1 (hn : Int)
        have b1 : Below wr.heap.size wr u1 := btrH' (Below.refl _ _).drew hg1
        have G1 : Hid (GrI X0 (u1.alloc (.cells #[.int .i64 (hn : Int)] 3)) (.slice po (ndR h (alR h tl (F.take j))).length pc) (ndR h (alR h tl (F.take j))) ∧ (u1.alloc (.cells #[.int .i64 (hn : Int)] 3)).heap[u1.heap.size]? = some (.cells #[.int .i64 (hn : Int)] 3)) := ⟨HG.out.up (btrH' b1 ((Below.refl _ _).alloc (Nat.le_refl _) _)), heap_newW _ _⟩
        clear hS1 hg1 b1
        go_simp
        refine hK.out _ _ (HS9.out _ G1.out.1.bel) ?_
        clear hK K hbs
        obtain ⟨g, hgg⟩ : ∃ g, u1.heap.size = g := ⟨_, rfl⟩
        rw [hgg] at G1 ⊢
        generalize u1.alloc (.cells #[.int .i64 (hn : Int)] 3) = U2 at G1 ⊢
        clear hgg
        try simp only [Act.put, List.setIfInBounds_toArray, List.set_cons_zero, List.set_cons_succ]
        refine readyM (i := 12) (o := ⟨some 54, .call { callee := .builtin .append, args := #[.tmp 42, .tmp 53], argTypes := #[28, 28] }, 28, "ref.go:51", #[⟨0, .data⟩, ⟨11, .data⟩], none⟩) rfl (by kernel_rfl) ?_
        intro u3 hg3 hS3 K hK
        rw [if_pos (by rfl)]
        have G3 : Hid (GrI X0 u3 (.slice po (ndR h (alR h tl (F.take j))).length pc) (ndR h (alR h tl (F.take j))) ∧ u3.heap[g]? = some (.cells #[.int .i64 (hn : Int)] 3)) := ⟨G1.out.1.up hg3, (Below.block hg3 _ (some_lt G1.out.2)).trans G1.out.2⟩
        refine wp_append_lies u3 _ _ 28 rfl X0.heap.size 3 i0 (.int .i64 0) 1 8 Tryz.underlying28 HI0.out.1 HI0.out.2.1 HI0.out.2.2.1 HI0.out.2.2.2 rfl (by decide) (.slice po (j + 1) pc) (j + 1) (iv (zs (ndR h (alR h tl (F.take j))))) rfl (by have g9 := G3.out.1.own; rw [HLN.out] at g9; exact g9) ⟨g, 0, none⟩ 1 1 (iv (zs [hn])) rfl rfl (fun a u ha => by
          have ha0 := (List.getElem?_eq_some_iff.1 ha).1
          have ha1 : a = 0 := by simp [iv, zs] at ha0; omega
          subst ha1
          simp [iv, zs] at ha
          subst ha
          simp [World.cell?, Addr.add, G3.out.2]) (ivz_one _) (by decide) (by unfold maxLen; omega) (by omega) G3.out.1.bel.size _ rfl ?_
        intro g5 cap5 w5 hown5 hgr5 hor5 hlt5
        have H5 : Hid (GrI X0 w5 (.slice (some ⟨g5, 0, none⟩) (ndR h (alR h tl (F.take (j + 1)))).length cap5) (ndR h (alR h tl (F.take (j + 1))))) := by
          show GrI _ _ _ _
          rw [nal_snoc HXX.out.1, HXX.out.2]
          exact G3.out.1.add (Below.refl _ _) (by rw [HLN.out]; exact hown5) (by rw [HLN.out]; exact hgr5)
        clear hown5 hgr5 hor5 hlt5 hg3 hS3 G1 G3
        refine hK.out _ _ (HS9.out _ H5.out.bel) ?_
        clear hK K
        try simp only [Act.put, List.setIfInBounds_toArray, List.set_cons_zero, List.set_cons_succ]
        refine wpAnyM_take (i := 13) (oi := ⟨some 9, .assign (.tmp 54), 28, "ref.go:51", #[⟨12, .data⟩, ⟨12, .chain⟩, ⟨0, .phase⟩, ⟨1, .phase⟩, ⟨2, .phase⟩, ⟨3, .phase⟩, ⟨4, .phase⟩, ⟨5, .phase⟩, ⟨6, .phase⟩, ⟨7, .phase⟩, ⟨8, .phase⟩, ⟨9, .phase⟩, ⟨10, .phase⟩, ⟨11, .phase⟩, ⟨12, .phase⟩], none⟩) (v := ?vm16z13) rfl (by kernel_rfl) (by kernel_rfl) (by kernel_rfl) (fun _ _ _ h => h) (YieldsM.of_if (Or.inl ⟨by rfl, ?hm16z13⟩)) ?rm16z13
        case hm16z13 => ((intro wz hSw; (try dsimp only at hSw); go_simp); try (with_reducible rfl))
        try simp only [Act.put, List.setIfInBounds_toArray, List.set_cons_zero, List.set_cons_succ]
        refine wpAnyM_done (by kernel_rfl) ?_ _
        intro u6 hg6 hS6
        have H6 : Hid (GrI X0 u6 (.slice (some ⟨g5, 0, none⟩) (ndR h (alR h tl (F.take (j + 1)))).length cap5) (ndR h (alR h tl (F.take (j + 1))))) := H5.out.up hg6
        clear hS6 hg6 H5
        go_wp2
        go_roundw
        case rel => exact ⟨j + 1, some ⟨g5, 0, none⟩, cap5, by omega, rfl, rfl, H6.out⟩
        case measure => simp [intOf]; omega
      · obtain rfl : j = F.length := by omega
        have HGO : Hid (GrI X0 wr (.slice po (ndR h (alR h tl F)).length pc) (ndR h (alR h tl F)) ∧ (ndR h (alR h tl F)).length = F.length + 1) := ⟨by have g9 := HG.out; rw [List.take_length] at g9; exact g9, by rw [ndR_len, alR_len]⟩
        have HTA : Hid (lkN h (k : Int) = ndR h (alR h tl F)) := by rw [← HTL.out]; exact HN0.out
        clear HG HLN
        go_wp2_with fail
        have HSS2 : Hid (∀ wx : World, wx.heap[q]? = some (.cells #[.int .i64 0, .slice lo 0 lc] 36) → (fun w' : World => w'.cell? ⟨q, 0, none⟩ = some (.int .i64 0) ∧ w'.cell? ⟨q, 1, none⟩ = some (.slice lo 0 lc) ∧ Hid (w'.heap[q]? = some (.cells #[.int .i64 0, .slice lo 0 lc] 36))) wx) := fun wx hx => by
          obtain ⟨b0, b1, _, _⟩ := cell_two hx
          exact ⟨b0, b1, hx⟩
        refine wp_region_M (S := (fun w' : World => w'.cell? ⟨q, 0, none⟩ = some (.int .i64 0) ∧ w'.cell? ⟨q, 1, none⟩ = some (.slice lo 0 lc) ∧ Hid (w'.heap[q]? = some (.cells #[.int .i64 0, .slice lo 0 lc] 36)))) (by kernel_rfl) (HSS2.out _ (HX.out _ (btrH' HGO.out.1.bel (Below.refl _ _).drew)).1.1) ?_
        refine wpAnyM_take (i := 0) (oi := ⟨some 56, .move (.tmp 9), 28, "ref.go:53", #[], none⟩) (v := ?ve28z0) rfl (by kernel_rfl) (by kernel_rfl) (by kernel_rfl) (fun _ _ _ h => h) (YieldsM.of_if (Or.inl ⟨by rfl, ?he28z0⟩)) ?re28z0
        case he28z0 => ((intro wz hSw; (try dsimp only at hSw); go_simp); try (with_reducible rfl))
        try simp only [Act.put, List.setIfInBounds_toArray, List.set_cons_zero, List.set_cons_succ]
        refine wpAnyM_take (i := 1) (oi := ⟨some 57, .load 36 (.tmp 7), 36, "ref.go:53", #[⟨2, .gcOnly .lateStores⟩], none⟩) (v := ?ve29z1) rfl (by kernel_rfl) (by kernel_rfl) (by kernel_rfl) (fun _ _ _ h => h) (YieldsM.of_if (Or.inl ⟨by rfl, ?he29z1⟩)) ?re29z1
        case he29z1 => ((intro wz hSw; (try dsimp only at hSw); go_simp); try (with_reducible rfl))
        try simp only [Act.put, List.setIfInBounds_toArray, List.set_cons_zero, List.set_cons_succ]
        refine wpAnyM_take (i := 2) (oi := ⟨some 4, .assign (.tmp 56), 28, "ref.go:53", #[⟨0, .data⟩, ⟨0, .phase⟩, ⟨1, .textOnly .lateStores⟩], none⟩) (v := ?ve30z2) rfl (by kernel_rfl) (by kernel_rfl) (by kernel_rfl) (fun _ _ _ h => h) (YieldsM.of_if (Or.inl ⟨by rfl, ?he30z2⟩)) ?re30z2
        case he30z2 => ((intro wz hSw; (try dsimp only at hSw); go_simp); try (with_reducible rfl))
        try simp only [Act.put, List.setIfInBounds_toArray, List.set_cons_zero, List.set_cons_succ]
        refine readyM (i := 3) (o := ⟨none, .store 36 (.tmp 5) (.tmp 57), 0, "ref.go:53", #[⟨1, .data⟩, ⟨2, .chain⟩, ⟨0, .phase⟩, ⟨1, .phase⟩, ⟨2, .phase⟩], none⟩) rfl (by kernel_rfl) ?_
        intro u3 hg3 hS3 K hK
        have G3 := HGO.out.1.up (btrH' (Below.refl _ _).drew hg3)
        obtain ⟨g1, _, g4, _, g5, _⟩ := (HX.out u3 G3.bel).1
        obtain ⟨d0, d1, f0, f1⟩ := cell_two g4
        have HT4 : Hid (((u3.setCell ⟨z + 1, 0, none⟩ (.int .i64 0)).setCell ⟨z + 1, 1, none⟩ (.slice lo 0 lc)).heap[z + 1]? = some (.cells #[.int .i64 0, .slice lo 0 lc] 36) ∧ ((u3.setCell ⟨z + 1, 0, none⟩ (.int .i64 0)).setCell ⟨z + 1, 1, none⟩ (.slice lo 0 lc)).heap[q]? = some (.cells #[.int .i64 0, .slice lo 0 lc] 36) ∧ ((u3.setCell ⟨z + 1, 0, none⟩ (.int .i64 0)).setCell ⟨z + 1, 1, none⟩ (.slice lo 0 lc)).ownsRow w.heap.size 3 1 (.slice po (ndR h (alR h tl F)).length pc) (ndR h (alR h tl F)).length (iv (zs (ndR h (alR h tl F)))) ∧ Below w.heap.size w ((u3.setCell ⟨z + 1, 0, none⟩ (.int .i64 0)).setCell ⟨z + 1, 1, none⟩ (.slice lo 0 lc))) := ⟨set_err g4 _ _, (Below.heap_setCell _ _ _ _ (by exact HNE.out)).trans ((Below.heap_setCell _ _ _ _ (by exact HNE.out)).trans g1), own_lowU (iown_keep G3.own fun b hb => by
          have hne : b ≠ z + 1 := by have := (G3.own.lt b hb).1; have := HZX.out.1; omega
          exact (Below.heap_setCell _ _ _ _ (by exact hne)).trans (Below.heap_setCell _ _ _ _ (by exact hne))) HZX.out.2.1, HSZ.out _ _ _ g5⟩
        clear hS3 g1 g4 g5 hg3 G3
        go_simp
        refine hK.out _ _ (HSS2.out _ HT4.out.2.1) ?_
        clear hK K d0 d1 f0 f1
        try simp only [Act.put, List.setIfInBounds_toArray, List.set_cons_zero, List.set_cons_succ]
        generalize ((u3.setCell ⟨z + 1, 0, none⟩ (.int .i64 0)).setCell ⟨z + 1, 1, none⟩ (.slice lo 0 lc)) = U4 at HT4 ⊢
        refine wpAnyM_done (by kernel_rfl) ?_ _
        intro u9 hg9 hS9
        have H9 : Hid (u9.heap[z + 1]? = some (.cells #[.int .i64 0, .slice lo 0 lc] 36) ∧ GrI w u9 (.slice po (ndR h (alR h tl F)).length pc) (ndR h (alR h tl F))) := ⟨(Below.block hg9 _ (some_lt HT4.out.1)).trans HT4.out.1, GrI.up ⟨HT4.out.2.2.1, HT4.out.2.2.2⟩ hg9⟩
        clear hS9 hg9 HT4
        go_wp2
        refine bodyPost_ret (docNodes_res H9.out.1 rfl rfl) rfl ?_
        rw [HTA.out]
        exact ⟨po, pc, lo, lc, by (rw [HGO.out.2]; rfl), H9.out.2, ⟨lo, lc, rfl, fun j p hj => by simp at hj⟩⟩
  · have j1 : decide (E = (0, [])) = false := by simpa using hc
    have HTA : Hid (lkN h i = []) := lkN_bad (by rw [HE.out.1]; exact hc)
    clear hc
    go_wp2_with fail
    have HSS : Hid (∀ wx : World, wx.heap[q]? = some (.cells #[.int .i64 E.1, .slice lo E.2.length lc] 36) → (fun w' : World => w'.cell? ⟨q, 0, none⟩ = some (.int .i64 E.1) ∧ w'.cell? ⟨q, 1, none⟩ = some (.slice lo E.2.length lc) ∧ Hid (w'.heap[q]? = some (.cells #[.int .i64 E.1, .slice lo E.2.length lc] 36))) wx) := fun wx hx => by
      obtain ⟨b0, b1, _, _⟩ := cell_two hx
      exact ⟨b0, b1, hx⟩
    refine wp_region_M (S := (fun w' : World => w'.cell? ⟨q, 0, none⟩ = some (.int .i64 E.1) ∧ w'.cell? ⟨q, 1, none⟩ = some (.slice lo E.2.length lc) ∧ Hid (w'.heap[q]? = some (.cells #[.int .i64 E.1, .slice lo E.2.length lc] 36)))) (by kernel_rfl) (HSS.out _ (H2.out _ (btrH' HB3.out (Below.refl _ _).drew)).1) ?_
    refine wpAnyM_take (i := 0) (oi := ⟨some 20, .load 36 (.tmp 7), 36, "ref.go:46", #[⟨1, .gcOnly .lateStores⟩], none⟩) (v := ?va1z0) rfl (by kernel_rfl) (by kernel_rfl) (by kernel_rfl) (fun _ _ _ h => h) (YieldsM.of_if (Or.inl ⟨by rfl, ?ha1z0⟩)) ?ra1z0
    case ha1z0 => ((intro wz hSw; (try dsimp only at hSw); go_simp); try (with_reducible rfl))
    try simp only [Act.put, List.setIfInBounds_toArray, List.set_cons_zero, List.set_cons_succ]
    refine wpAnyM_take (i := 1) (oi := ⟨some 4, .assign (.const (.slice none 0 0)), 28, "ref.go:46", #[⟨0, .textOnly .lateStores⟩], none⟩) (v := ?va2z1) rfl (by kernel_rfl) (by kernel_rfl) (by kernel_rfl) (fun _ _ _ h => h) (YieldsM.of_if (Or.inl ⟨by rfl, ?ha2z1⟩)) ?ra2z1
    case ha2z1 => ((intro wz hSw; (try dsimp only at hSw); go_simp); try (with_reducible rfl))
    try simp only [Act.put, List.setIfInBounds_toArray, List.set_cons_zero, List.set_cons_succ]
    refine readyM (i := 2) (o := ⟨none, .store 36 (.tmp 5) (.tmp 20), 0, "ref.go:46", #[⟨0, .data⟩, ⟨1, .chain⟩, ⟨0, .phase⟩, ⟨1, .phase⟩], none⟩) rfl (by kernel_rfl) ?_
    intro u3 hg3 hS3 K hK
    obtain ⟨g1, g2, _, g4, _, g5, _⟩ := H2.out u3 (btrH' HB3.out (btrH' (Below.refl _ _).drew hg3))
    obtain ⟨d0, d1, f0, f1⟩ := cell_two g4
    have HT4 : Hid (((u3.setCell ⟨z + 1, 0, none⟩ (.int .i64 E.1)).setCell ⟨z + 1, 1, none⟩ (.slice lo E.2.length lc)).heap[z + 1]? = some (.cells #[.int .i64 E.1, .slice lo E.2.length lc] 36) ∧ ((u3.setCell ⟨z + 1, 0, none⟩ (.int .i64 E.1)).setCell ⟨z + 1, 1, none⟩ (.slice lo E.2.length lc)).heap[q]? = some (.cells #[.int .i64 E.1, .slice lo E.2.length lc] 36) ∧ HasPlaces ((u3.setCell ⟨z + 1, 0, none⟩ (.int .i64 E.1)).setCell ⟨z + 1, 1, none⟩ (.slice lo E.2.length lc)) (.slice lo E.2.length lc) E.2 ∧ Below w.heap.size w ((u3.setCell ⟨z + 1, 0, none⟩ (.int .i64 E.1)).setCell ⟨z + 1, 1, none⟩ (.slice lo E.2.length lc))) := ⟨set_err g4 _ _, (Below.heap_setCell _ _ _ _ (by exact HNE.out)).trans ((Below.heap_setCell _ _ _ _ (by exact HNE.out)).trans g1), pl_sets (F := E) g4 g2 _ _, HSZ.out _ _ _ g5⟩
    clear hS3 g1 g2 g4 g5 hg3
    go_simp
    refine hK.out _ _ (HSS.out _ HT4.out.2.1) ?_
    clear hK K d0 d1 f0 f1
    try simp only [Act.put, List.setIfInBounds_toArray, List.set_cons_zero, List.set_cons_succ]
    generalize ((u3.setCell ⟨z + 1, 0, none⟩ (.int .i64 E.1)).setCell ⟨z + 1, 1, none⟩ (.slice lo E.2.length lc)) = U4 at HT4 ⊢
    refine wpAnyM_done (by kernel_rfl) ?_ _
    intro u9 hg9 hS9
    have H9 : Hid (u9.heap[z + 1]? = some (.cells #[.int .i64 E.1, .slice lo E.2.length lc] 36) ∧ HasPlaces u9 (.slice lo E.2.length lc) E.2 ∧ Below w.heap.size w u9) := ⟨(Below.block hg9 _ (some_lt HT4.out.1)).trans HT4.out.1, HT4.out.2.2.1.keep hg9, HT4.out.2.2.2.trans (hg9.mono HT4.out.2.2.2.size)⟩
    clear hS9 hg9 HT4
    go_wp2
    exact bodyPost_ret (docNodes_res H9.out.1 rfl rfl) rfl (DL.bad rfl HTA.out H9.out.2.1 H9.out.2.2)
theorem docNodes_calls (v : HV) (h : Hr) (i : Int) (w : World) (hH : HasH w v h) (hb1 : h.up.length ≤ 1152921504606846976) (hb2 : h.dn.length ≤ 1152921504606846976) (hb3 : h.node.length ≤ 1152921504606846976) :
    Calls Tryz.prog 16 #[hvl v h, .int .i64 i] w (DL (lkE h i) (lkN h i) w) :=
  docNodes_aux v.no v.uo v.ul v.wo v.dl v.nc v.uc v.ulc v.wc v.dlc h i w hH hb1 hb2 hb3
end Go.Proofs.YtodilocmfdeehaaGreatDoor.Hi
