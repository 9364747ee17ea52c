/- viaductref10.number: the number of a child in what is turned about. viaductref10.turned and Turn: a hierarchy turned about, by the reference. (genho.py) viaductref10.Arcs: all links as arcs between ranks, in their order. -/
import Derived.Test.YtodilocmfdeehaaGreatDoorHrU
import Derived.Test.YtodilocmfdeehaaGreatDoorHtA
import Derived.Test.YtodilocmfdeehaaGreatDoorHdM
import Derived.Test.YtodilocmfdeehaaGreatDoorHsB
import Derived.Test.YtodilocmfdeehaaGreatDoorHdC
namespace Go.Proofs.YtodilocmfdeehaaGreatDoor.Hi
open Go.RowKit Go.Extern Go.Shelf

attribute [local go_sem] Oper.semAt_some

def numT (p q i : Nat) : Nat := if i = 4294967295 then i else if i < p then q + i else i - p
end Go.Proofs.YtodilocmfdeehaaGreatDoor.Hi

namespace Go.Proofs.YtodilocmfdeehaaGreatDoor.Hi
open Go.RowKit Go.Extern Go.Shelf

attribute [local go_sem] Oper.semAt_some

/-- a link with its children told anew, as the reference tells them. -/
def rTurnL (p q : Nat) (l : Lk) : Lk := ⟨l.hd, l.wt, numT p q l.rt, numT p q l.lf⟩
theorem own_upO {w w' : World} {B n z : Nat} {T : TypeId} {v : Value} {xs : List Value} (h : w.ownsRow B T z v n xs) (hb : Below w.heap.size w w') : w'.ownsRow B T z v n xs := by
  rcases h.2 with ⟨e, h0⟩ | ⟨g, cap, cur, e, hg, hh, r⟩
  · exact ⟨h.1, .inl ⟨e, h0⟩⟩
  · exact ⟨h.1, .inr ⟨g, cap, cur, e, hg, (hb.block g (some_lt hh)).trans hh, r⟩⟩

/-- the rows lie no lower. -/
def HighV (B : Nat) (u : HV) : Prop := (∀ a, u.no = some a → B ≤ a.block) ∧ (∀ a, u.uo = some a → B ≤ a.block) ∧ (∀ a, u.ul = some a → B ≤ a.block) ∧ (∀ a, u.wo = some a → B ≤ a.block) ∧ ∀ a, u.dl = some a → B ≤ a.block
end Go.Proofs.YtodilocmfdeehaaGreatDoor.Hi

namespace Go.Proofs.YtodilocmfdeehaaGreatDoor.Hi
open Go.RowKit Go.Extern Go.Shelf

attribute [local go_sem] Oper.semAt_some

/-- the cells of links as arcs. -/
def evs (l : List Sd) : List Value := l.flatMap fun s => [.int .i64 (s.tail : Int), .int .i64 (s.head : Int), .int .i64 (s.rk : Int)]
theorem evs_append (l r : List Sd) : evs (l ++ r) = evs l ++ evs r := by simp [evs]
theorem evs_one (l : List Sd) : ∀ u ∈ evs l, u.oneCell' = true := by
  intro u hu
  simp [evs] at hu
  obtain ⟨a, _, rfl | rfl | rfl⟩ := hu <;> rfl
theorem evs_get : ∀ (l : List Sd) (i : Nat) (a : Sd), l[i]? = some a → (evs l)[i * 3]? = some (.int .i64 (a.tail : Int)) ∧ (evs l)[i * 3 + 1]? = some (.int .i64 (a.head : Int)) ∧ (evs l)[i * 3 + 2]? = some (.int .i64 (a.rk : Int))
  | [], i, a, h => by simp at h
  | s :: l, 0, a, h => by
    simp at h
    subst h
    simp [evs]
  | s :: l, i + 1, a, h => by
    obtain ⟨h0, h1, h2⟩ := evs_get l i a (by simpa using h)
    have e : evs (s :: l) = [.int .i64 (s.tail : Int), .int .i64 (s.head : Int), .int .i64 (s.rk : Int)] ++ evs l := rfl
    have key : ∀ c, (evs (s :: l))[(i + 1) * 3 + c]? = (evs l)[i * 3 + c]? := fun c => by
      rw [e, List.getElem?_append_right (by simp; omega)]
      congr 1
      simp
      omega
    exact ⟨(key 0).trans h0, (key 1).trans h1, (key 2).trans h2⟩
theorem infoEnd : (Tryz.prog.info? 59).map (fun i => (i.zero, i.size, i.bytes)) = some (some (.agg #[.int .i64 0, .int .i64 0, .int .i64 0]), 3, 24) := by kernel_rfl
/-- all links as arcs, in memory. -/
def HasEs (w : World) (lv : Value) (h : Hr) : Prop := ∃ B, ∃ (mo : Option Addr) (mc : Nat), lv = .slice mo (stds h).length mc ∧ w.ownsRow B 59 3 lv (stds h).length (evs (stds h))
theorem HasEs.keep {w w' : World} {lv : Value} {h : Hr} (g : HasEs w lv h) (hb : Below w.heap.size w w') : HasEs w' lv h := by
  obtain ⟨B, mo, mc, rfl, ho⟩ := g
  exact ⟨B, mo, mc, rfl, own_keep ho fun k _ _ hh => (hb.block k (some_lt hh)).trans hh⟩
theorem HasEs.at {w : World} {mo : Option Addr} {mc : Nat} {h : Hr} (g : HasEs w (.slice mo (stds h).length mc) h) {i : Nat} (hi : i < (stds h).length) : ∃ b, mo = some ⟨b, 0, none⟩ ∧ (w.cell? ⟨b, i * 3, none⟩ = some (.int .i64 ((sd (stds h) i).tail : Int)) ∧ w.cell? ⟨b, i * 3 + 1, none⟩ = some (.int .i64 ((sd (stds h) i).head : Int)) ∧ w.cell? ⟨b, i * 3 + 2, none⟩ = some (.int .i64 ((sd (stds h) i).rk : Int))) ∧ b < w.heap.size := by
  obtain ⟨B, mo', mc', e, ho⟩ := g
  injection e with e1 _ e3
  subst e1 e3
  rcases ho.2 with ⟨e1, h0⟩ | ⟨b, cap, cur, e1, _, hh, _⟩
  · omega
  · injection e1 with e1 _ _
    subst e1
    obtain ⟨g0, g1, g2⟩ := evs_get _ _ _ (sd_get hi)
    exact ⟨b, rfl, ⟨(ho.cellAt (i * 3) (by omega)).trans g0, (ho.cellAt (i * 3 + 1) (by omega)).trans g1, (ho.cellAt (i * 3 + 2) (by omega)).trans g2⟩, some_lt hh⟩

set_option maxRecDepth 100000 in
set_option maxHeartbeats 4000000 in
theorem arcsR_calls (v : HV) (h : Hr) (w : World) (hH : HasH w v h) (hu : FOk h.upF h.up.length) (hd : FOk h.dnF h.dn.length) (hl1 : h.upF.length ≤ 65537) (hl2 : h.dnF.length ≤ 65537) (hL : h.up.length + h.dn.length ≤ 1048576) :
    Calls Tryz.prog 24 #[hvl v h] w fun e w' => ∃ mo mc, e = .returned (.slice mo (stds h).length mc) ∧ HasEs w' (.slice mo (stds h).length mc) h ∧ Below w.heap.size w w' := by
  have hlen := stds_len hu hd
  obtain ⟨z, hz⟩ : ∃ z, w.heap.size = z := ⟨_, rfl⟩
  obtain ⟨W0, hW0⟩ : ∃ W0, w.alloc (.cells (cellsH v h) 25) = W0 := ⟨_, rfl⟩
  have hB0 : Below w.heap.size w W0 := by rw [← hW0]; exact (Below.refl _ w).alloc (Nat.le_refl _) _
  have h0 : W0.heap[z]? = some (.cells (cellsH v h) 25) := by
    rw [← hW0, ← hz]; exact heap_newW _ _
  have HQ : Hid (∀ wx, Below W0.heap.size W0 wx → (wx.cell? ⟨z, 0, none⟩ = some (.slice v.no h.node.length v.nc) ∧ wx.cell? ⟨z, 1, none⟩ = some (.slice v.uo h.upF.length v.uc) ∧ wx.cell? ⟨z, 2, none⟩ = some (.slice v.ul h.up.length v.ulc) ∧ wx.cell? ⟨z, 3, none⟩ = some (.slice v.wo h.dnF.length v.wc) ∧ wx.cell? ⟨z, 4, none⟩ = some (.slice v.dl h.dn.length v.dlc)) ∧ HasH wx v h ∧ Below w.heap.size w wx) := fun wx hx => by
    have g := hB0.trans (hx.mono hB0.size)
    exact ⟨five_cells ((hx.block _ (some_lt h0)).trans h0), hH.keep g, g⟩
  have HRK : Hid (Calls Tryz.prog 50 #[hvl v h] W0 fun e w' => ∃ mo mc, e = .returned (.slice mo (stds h).length mc) ∧ w'.ownsRow W0.heap.size 3 1 (.slice mo (stds h).length mc) (stds h).length (ivs ((stds h).map fun s => (s.rk : Int))) ∧ Below W0.heap.size W0 w') := ranksR_calls v h W0 (HQ.out W0 (Below.refl _ _)).2.1 hu hd hl1 hl2 hL
  have HEO : Hid (∀ (wx : World) (mo : Option Addr) (mc i : Nat), HasH wx v h → HasRk wx (.slice mo (stds h).length mc) h → i < (stds h).length → Calls Tryz.prog 52 #[hvl v h, .slice mo (stds h).length mc, .int .i64 (i : Int)] wx fun e w' => e = .returned (.agg #[.int .i64 ((sd (stds h) i).tail : Int), .int .i64 ((sd (stds h) i).head : Int), .int .i64 ((sd (stds h) i).rk : Int)]) ∧ Below wx.heap.size wx w') := fun wx mo mc i hx hr hi => endOf_calls v h mo mc i wx hx hr hu hd hL hi
  have HW0 : Hid (w.alloc (.cells (cellsH v h) 25) = W0) := hW0
  have HLEN : Hid ((stds h).length ≤ 1048576) := by show _ ≤ _; omega
  have HZL : Hid (w.heap.size ≤ W0.heap.size) := hB0.size
  obtain ⟨⟨c0, c1, c2, c3, c4⟩, _⟩ := HQ.out W0 (Below.refl _ _)
  obtain ⟨i0, hi9, hzz⟩ := Option.map_eq_some_iff.1 infoEnd
  simp only [Prod.mk.injEq] at hzz
  have HI : Hid (Tryz.prog.info? 59 = some i0 ∧ i0.zero = some (.agg #[.int .i64 0, .int .i64 0, .int .i64 0]) ∧ i0.size = 3 ∧ i0.bytes = 24) := ⟨hi9, hzz⟩
  clear hW0 h0 hB0 hH hi9 hzz hlen hu hd
  unfold cellsH at HW0
  unfold hvl at HRK HEO ⊢
  go_enter Tryz.func24, Tryz.ntmps24
  go_upto_region 1 with fail
  rw [HW0.out]
  clear HW0 hz
  go_wp2_with fail
  refine HRK.out.mono ?_
  rintro e w1 ⟨mo, mc, rfl, ho, hb⟩
  have HQ1 : Hid (∀ wx, Below w1.heap.size w1 wx → (wx.cell? ⟨z, 0, none⟩ = some (.slice v.no h.node.length v.nc) ∧ wx.cell? ⟨z, 1, none⟩ = some (.slice v.uo h.upF.length v.uc) ∧ wx.cell? ⟨z, 2, none⟩ = some (.slice v.ul h.up.length v.ulc) ∧ wx.cell? ⟨z, 3, none⟩ = some (.slice v.wo h.dnF.length v.wc) ∧ wx.cell? ⟨z, 4, none⟩ = some (.slice v.dl h.dn.length v.dlc)) ∧ HasH wx v h ∧ HasRk wx (.slice mo (stds h).length mc) h ∧ Below w.heap.size w wx) := fun wx hx => by
    obtain ⟨g1, g2, g3⟩ := HQ.out wx (btrH' hb hx)
    have hr : HasRk w1 (.slice mo (stds h).length mc) h := ⟨_, mo, mc, rfl, ho⟩
    exact ⟨g1, g2, hr.keep hx, g3⟩
  have HB1 : Hid (Below w1.heap.size w1 w1) := Below.refl _ _
  clear ho hb c0 c1 c2 c3 c4 HRK
  go_wp2_with fail
  go_loopw [4, 10] (fun mv nv wr => ∃ (k : Nat) (so : Option Addr) (sc : Nat), k ≤ (stds h).length ∧ nv = .int .i64 k ∧ mv = .slice so k sc ∧ Hid (wr.ownsRow w1.heap.size 59 3 (.slice so k sc) k (evs ((stds h).take k))) ∧ Hid (Below w1.heap.size w1 wr)) (fun _ nv _ => (stds h).length - (intOf nv).toNat)
  case atStart => exact ⟨0, none, 0, Nat.zero_le _, rfl, rfl, World.ownsRow_nil _ _ _ _, HB1.out⟩
  case round =>
    obtain ⟨k, so, sc, hk, rfl, rfl, HO, HB⟩ := hrel
    by_cases hlt : k < (stds h).length
    · have HT1 : Hid ((stds h).take (k + 1) = (stds h).take k ++ [sd (stds h) k]) := by show _ = _; rw [List.take_add_one, sd_get hlt]; rfl
      obtain ⟨⟨c0, c1, c2, c3, c4⟩, g2, g3, _⟩ := HQ1.out wr HB.out
      have HC : Hid (type_of% (HEO.out wr mo mc k g2 g3 hlt)) := HEO.out wr mo mc k g2 g3 hlt
      have i1 : (k : Int) < ((stds h).length : Int) := by omega
      have i2 : (0 : Int) ≤ (k : Int) := by omega
      have i3 : k < 1048576 := by have := HLEN.out; omega
      clear g2 g3
      go_wp2_with fail
      refine HC.out.mono ?_
      rintro e w4 ⟨rfl, hb4⟩
      have HK : Hid (w4.ownsRow w1.heap.size 59 3 (.slice so k sc) k (evs ((stds h).take k)) ∧ Below w1.heap.size w1 w4) := ⟨own_upO HO.out hb4, btrH' HB.out hb4⟩
      clear HC hb4 c0 c1 c2 c3 c4 HO HB
      go_wp2_with (at_builtin; refine wpList_append_own _ rfl _ _ 56 rfl w1.heap.size 59 i0 (.agg #[.int .i64 0, .int .i64 0, .int .i64 0]) 3 24 Tryz.underlying56 HI.out.1 HI.out.2.1 HI.out.2.2.1 HI.out.2.2.2 rfl (by decide) _ k (evs ((stds h).take k)) rfl (HK.out.1.alloc _) ⟨w4.heap.size, 0, none⟩ 1 1 (evs [sd (stds h) k]) rfl rfl (new_cells w4 (evs [sd (stds h) k]) 59) (evs_one _) (by unfold maxLen; omega) (by omega) (by have := HK.out.2.size; simp; omega) ?_; intro v5 w5 hown5 hgr5 _; have H5 : Hid (w5.ownsRow w1.heap.size 59 3 v5 (k + 1) (evs ((stds h).take (k + 1))) ∧ Below w1.heap.size w1 w5) := ⟨by rw [HT1.out, evs_append]; exact hown5, below_grown (HK.out.2.alloc HK.out.2.size _) (HK.out.1.alloc _) hgr5 (by have := HK.out.2.size; simp; omega)⟩; clear hown5 hgr5; obtain ⟨po, pc, hv5⟩ := own_slice H5.out.1; subst hv5)
      exact ⟨⟨k + 1, po, pc, by omega, by rw [show (k : Int) + 1 = ((k + 1 : Nat) : Int) by omega], rfl, H5.out.1, H5.out.2⟩, by simp only [intOf]; omega⟩
    · obtain rfl : k = (stds h).length := by omega
      have HK2 : Hid (HasEs wr (.slice so (stds h).length sc) h ∧ Below w.heap.size w wr) := ⟨⟨_, so, sc, rfl, by have g := HO.out; rw [List.take_length] at g; exact g⟩, (HQ1.out wr HB.out).2.2.2⟩
      clear HO HB
      go_wp2_with fail
      go_ret
      exact ⟨so, sc, rfl, HK2.out.1, HK2.out.2⟩
end Go.Proofs.YtodilocmfdeehaaGreatDoor.Hi
