/- viaductref10.number: the number of a child in what is turned about. viaductref10.turned and Turn: a hierarchy turned about, by the reference. (genho.py) viaductref10.Arcs: all links as arcs between ranks, in their order. -/
import Derived.Test.YtodilocmfdeehaaGreatDoorHrU
import Derived.Test.YtodilocmfdeehaaGreatDoorHtA
import Derived.Test.YtodilocmfdeehaaGreatDoorHdM
import Derived.Test.YtodilocmfdeehaaGreatDoorHsB
import Derived.Test.YtodilocmfdeehaaGreatDoorHdC
namespace Go.Proofs.YtodilocmfdeehaaGreatDoor.Hi
open Go.RowKit Go.Extern Go.Shelf

attribute [local go_sem] Oper.semAt_some

def numT (p q i : Nat) : Nat := if i = 4294967295 then i else if i < p then q + i else i - p
set_option maxRecDepth 100000 in
set_option maxHeartbeats 4000000 in
theorem number_calls (v : HV) (h : Hr) (i : Nat) (w : World) (hi : i < 4294967296) (hL : h.up.length + h.dn.length ≤ 1048576) :
    Calls Tryz.prog 129 #[hvl v h, .int .u32 (i : Int)] w fun e w' => e = .returned (.int .u32 (numT h.up.length h.dn.length i : Int)) ∧ Below w.heap.size w w' := by
  obtain ⟨z, hz⟩ : ∃ z, w.heap.size = z := ⟨_, rfl⟩
  obtain ⟨W0, hW0⟩ : ∃ W0, w.alloc (.cells (cellsH v h) 25) = W0 := ⟨_, rfl⟩
  have h0 : W0.heap[z]? = some (.cells (cellsH v h) 25) := by rw [← hW0, ← hz]; exact heap_newW _ _
  have HW0 : Hid (w.alloc (.cells (cellsH v h) 25) = W0) := hW0
  have HB0 : Hid (Below w.heap.size w W0) := by show Below _ _ _; rw [← hW0]; exact (Below.refl _ _).alloc (Nat.le_refl _) _
  obtain ⟨c0, c1, c2, c3, c4⟩ := five_cells h0
  obtain ⟨p, hp⟩ : ∃ p, h.up.length = p := ⟨_, rfl⟩
  obtain ⟨q, hq⟩ : ∃ q, h.dn.length = q := ⟨_, rfl⟩
  obtain ⟨r, hr⟩ : ∃ r, numT p q i = r := ⟨_, rfl⟩
  have HR : Hid (numT p q i = r) := hr
  clear hW0 h0
  unfold cellsH at HW0
  unfold hvl
  rw [hp, hq] at hL ⊢
  rw [hp, hq] at HW0
  rw [hp] at c2
  rw [hq] at c4
  rw [hr]
  clear hp hq hr
  by_cases g1 : i = 4294967295
  · subst g1
    have HE : Hid (r = 4294967295) := by show _ = _; rw [← HR.out]; rfl
    go_enter Tryz.func129, Tryz.ntmps129
    go_wp2_with fail
    rw [HW0.out]
    go_wp2
    go_ret
    exact ⟨by rw [HE.out]; rfl, HB0.out⟩
  have a1 : ((i : Int) == 4294967295) = false := by simp; omega
  have a2 : (i == 4294967295) = false := by simpa using g1
  have a3 : IntKind.i64.wrap (i : Int) = (i : Int) := by rw [IntKind.wrap_i64]; omega
  by_cases g2 : i < p
  · have b1 : decide ((i : Int) < (p : Int)) = true := by simp; omega
    have b2 : decide (i < p) = true := by simpa using g2
    have b3 : IntKind.u32.wrap (q : Int) = (q : Int) := by rw [IntKind.wrap_u32]; omega
    have b4 : IntKind.u32.wrap ((q : Int) + (i : Int)) = (q : Int) + (i : Int) := by rw [IntKind.wrap_u32]; omega
    have HE : Hid (r = q + i) := by show _ = _; rw [← HR.out]; unfold numT; rw [if_neg g1, if_pos g2]
    clear g1 g2
    go_enter Tryz.func129, Tryz.ntmps129
    go_upto_region 1 with fail
    rw [HW0.out]
    go_wp2
    go_ret
    exact ⟨by rw [HE.out]; simp, HB0.out⟩
  · have b1 : decide ((i : Int) < (p : Int)) = false := by simp; omega
    have b2 : decide (i < p) = false := by simpa using g2
    have b3 : IntKind.u32.wrap (p : Int) = (p : Int) := by rw [IntKind.wrap_u32]; omega
    have b4 : IntKind.u32.wrap ((i : Int) - (p : Int)) = (r : Int) := by rw [← HR.out]; unfold numT; rw [if_neg g1, if_neg g2, IntKind.wrap_u32] <;> omega
    clear g1 g2
    go_enter Tryz.func129, Tryz.ntmps129
    go_upto_region 1 with fail
    rw [HW0.out]
    go_wp2
    go_ret
    exact ⟨by simp, HB0.out⟩
end Go.Proofs.YtodilocmfdeehaaGreatDoor.Hi

namespace Go.Proofs.YtodilocmfdeehaaGreatDoor.Hi
open Go.RowKit Go.Extern Go.Shelf

attribute [local go_sem] Oper.semAt_some

/-- a link with its children told anew, as the reference tells them. -/
def rTurnL (p q : Nat) (l : Lk) : Lk := ⟨l.hd, l.wt, numT p q l.rt, numT p q l.lf⟩
theorem build_lk (a b c d : Int) (wx : World) : (Instr.buildSlice 23 1 #[(0, .agg #[.int .u32 a, .int .u64 b, .int .u32 c, .int .u32 d])]).run Tryz.prog wx = .ok (.slice (some ⟨wx.heap.size, 0, none⟩) 1 1) (wx.alloc (.cells #[.int .u32 a, .int .u64 b, .int .u32 c, .int .u32 d] 65)) := by kernel_rfl
theorem four_at {w : World} {b : Nat} {T : TypeId} {a0 a1 a2 a3 : Value} (h : w.heap[b]? = some (.cells #[a0, a1, a2, a3] T)) : w.cell? ⟨b, 0, none⟩ = some a0 ∧ w.cell? ⟨b, 1, none⟩ = some a1 ∧ w.cell? ⟨b, 2, none⟩ = some a2 ∧ w.cell? ⟨b, 3, none⟩ = some a3 := by simp [World.cell?, h]
theorem own_upO {w w' : World} {B n z : Nat} {T : TypeId} {v : Value} {xs : List Value} (h : w.ownsRow B T z v n xs) (hb : Below w.heap.size w w') : w'.ownsRow B T z v n xs := by
  rcases h.2 with ⟨e, h0⟩ | ⟨g, cap, cur, e, hg, hh, r⟩
  · exact ⟨h.1, .inl ⟨e, h0⟩⟩
  · exact ⟨h.1, .inr ⟨g, cap, cur, e, hg, (hb.block g (some_lt hh)).trans hh, r⟩⟩

theorem own_lowO {w : World} {B B' n z : Nat} {T : TypeId} {v : Value} {xs : List Value} (h : w.ownsRow B T z v n xs) (hb : B' ≤ B) : w.ownsRow B' T z v n xs := by
  rcases h.2 with ⟨e, h0⟩ | ⟨g, cap, cur, e, hg, r⟩
  · exact ⟨h.1, .inl ⟨e, h0⟩⟩
  · exact ⟨h.1, .inr ⟨g, cap, cur, e, Nat.le_trans hb hg, r⟩⟩
theorem cells_four {w : World} {g : Nat} {a0 a1 a2 a3 : Value} (h0 : w.cell? ⟨g, 0, none⟩ = some a0) (h1 : w.cell? ⟨g, 1, none⟩ = some a1) (h2 : w.cell? ⟨g, 2, none⟩ = some a2) (h3 : w.cell? ⟨g, 3, none⟩ = some a3) : ∀ j u, [a0, a1, a2, a3][j]? = some u → w.cell? ((⟨g, 0, none⟩ : Addr).add j) = some u := fun j u hj => by
  have e : (⟨g, 0, none⟩ : Addr).add j = ⟨g, j, none⟩ := by
    by_cases h0 : j = 0
    · subst h0; rfl
    · simp [Addr.add, h0]
  rw [e]
  rcases j with _ | _ | _ | _ | j
  · simp at hj; rw [← hj]; exact h0
  · simp at hj; rw [← hj]; exact h1
  · simp at hj; rw [← hj]; exact h2
  · simp at hj; rw [← hj]; exact h3
  · simp at hj

set_option maxRecDepth 100000 in
set_option maxHeartbeats 4000000 in
theorem turned_aux (no uo ul wo dl : Option Addr) (nc uc ulc wc dlc n fu p fd q : Nat) (lo : Option Addr) (lc : Nat) (l : List Lk) (w : World) (hnum : ∀ (i : Nat) (wx : World), i < 4294967296 → Calls Tryz.prog 129 #[(.agg #[.slice no n nc, .slice uo fu uc, .slice ul p ulc, .slice wo fd wc, .slice dl q dlc]), .int .u32 (i : Int)] wx fun e w' => e = .returned (.int .u32 (numT p q i : Int)) ∧ Below wx.heap.size wx w') (hl : HasLs w (.slice lo l.length lc) l) (hm : l.length * 24 ≤ 140737488351232) :
    Calls Tryz.prog 120 #[(.agg #[.slice no n nc, .slice uo fu uc, .slice ul p ulc, .slice wo fd wc, .slice dl q dlc]), .slice lo l.length lc] w fun e w' => ∃ mo mc, e = .returned (.slice mo l.length mc) ∧ w'.ownsRow w.heap.size 65 4 (.slice mo l.length mc) l.length (lvs (l.map (rTurnL p q))) ∧ Below w.heap.size w w' := by
  obtain ⟨z, hz⟩ : ∃ z, w.heap.size = z := ⟨_, rfl⟩
  obtain ⟨W0, hW0⟩ : ∃ W0, w.alloc (.cells #[.slice no n nc, .slice uo fu uc, .slice ul p ulc, .slice wo fd wc, .slice dl q dlc] 25) = W0 := ⟨_, rfl⟩
  have HW0 : Hid (w.alloc (.cells #[.slice no n nc, .slice uo fu uc, .slice ul p ulc, .slice wo fd wc, .slice dl q dlc] 25) = W0) := hW0
  have HQ : Hid (∀ wx, Below W0.heap.size W0 wx → wx.heap[z]? = some (.cells #[.slice no n nc, .slice uo fu uc, .slice ul p ulc, .slice wo fd wc, .slice dl q dlc] 25) ∧ HasLs wx (.slice lo l.length lc) l ∧ Below w.heap.size w wx) := fun wx hx => by
    have h1 : W0.heap[z]? = some (.cells #[.slice no n nc, .slice uo fu uc, .slice ul p ulc, .slice wo fd wc, .slice dl q dlc] 25) := by rw [← hW0, ← hz]; exact heap_newW _ _
    have h2 : Below w.heap.size w W0 := by rw [← hW0]; exact (Below.refl _ _).alloc (Nat.le_refl _) _
    have h3 := btrH' h2 hx
    exact ⟨(hx.block _ (some_lt h1)).trans h1, hl.keep h3, h3⟩
  have HZ0 : Hid (z < W0.heap.size ∧ w.heap.size ≤ W0.heap.size) := by
    have h1 : W0.heap[z]? = some (.cells #[.slice no n nc, .slice uo fu uc, .slice ul p ulc, .slice wo fd wc, .slice dl q dlc] 25) := by rw [← hW0, ← hz]; exact heap_newW _ _
    exact ⟨some_lt h1, (HQ.out W0 (Below.refl _ _)).2.2.size⟩
  have HNUM : Hid (type_of% hnum) := hnum
  obtain ⟨i0, hi9, hzz⟩ := Option.map_eq_some_iff.1 infoLs
  simp only [Prod.mk.injEq] at hzz
  have HI : Hid (Tryz.prog.info? 65 = some i0 ∧ i0.zero = some (.agg #[.int .u32 0, .int .u64 0, .int .u32 0, .int .u32 0]) ∧ i0.size = 4 ∧ i0.bytes = 24) := ⟨hi9, hzz⟩
  have HW1 : Hid (Below W0.heap.size W0 W0) := Below.refl _ _
  clear hl hi9 hzz hnum hW0
  go_enter Tryz.func120, Tryz.ntmps120
  go_upto_region 1 with fail
  rw [HW0.out]
  clear HW0 hz
  go_wp2_with fail
  go_loopw [5, 10] (fun mv nv wr => ∃ (k : Nat) (so : Option Addr) (sc : Nat), k ≤ l.length ∧ nv = .int .i64 k ∧ mv = .slice so k sc ∧ Hid (wr.ownsRow W0.heap.size 65 4 (.slice so k sc) k (lvs ((l.map (rTurnL p q)).take k))) ∧ Hid (Below W0.heap.size W0 wr)) (fun _ nv _ => l.length - (intOf nv).toNat)
  case atStart => exact ⟨0, none, 0, Nat.zero_le _, rfl, rfl, World.ownsRow_nil _ _ _ _, HW1.out⟩
  case round =>
    obtain ⟨k, so, sc, hk, rfl, rfl, HO, HB⟩ := hrel
    by_cases hlt : k < l.length
    · obtain ⟨a, ha⟩ : ∃ a, l[k]? = some a := ⟨l[k], List.getElem?_eq_getElem hlt⟩
      obtain ⟨hok, b, off, hlo, hbl, c0, c1, c2, c3⟩ := ((HQ.out wr HB.out).2.1).at ha
      obtain ⟨lh, lw, ll, lr⟩ := a
      simp only at c0 c1 c2 c3
      subst hlo
      obtain ⟨x, hx⟩ : ∃ x, numT p q lr = x := ⟨_, rfl⟩
      obtain ⟨y, hy⟩ : ∃ y, numT p q ll = y := ⟨_, rfl⟩
      have HT1 : Hid ((l.map (rTurnL p q)).take (k + 1) = (l.map (rTurnL p q)).take k ++ [⟨lh, lw, x, y⟩]) := by
        show _ = _
        rw [List.take_add_one, List.getElem?_map, ha]
        show _ = _ ++ [_]
        rw [← hx, ← hy]
        rfl
      have HN1 : Hid (∀ wx, Calls Tryz.prog 129 #[(.agg #[.slice no n nc, .slice uo fu uc, .slice ul p ulc, .slice wo fd wc, .slice dl q dlc]), .int .u32 (lr : Int)] wx fun e w' => e = .returned (.int .u32 (x : Int)) ∧ Below wx.heap.size wx w') := fun wx => by rw [← hx]; exact HNUM.out lr wx hok.2.2.2
      have HN2 : Hid (∀ wx, Calls Tryz.prog 129 #[(.agg #[.slice no n nc, .slice uo fu uc, .slice ul p ulc, .slice wo fd wc, .slice dl q dlc]), .int .u32 (ll : Int)] wx fun e w' => e = .returned (.int .u32 (y : Int)) ∧ Below wx.heap.size wx w') := fun wx => by rw [← hy]; exact HNUM.out ll wx hok.2.2.1
      have i1 : (k : Int) < (l.length : Int) := by omega
      have i2 : (0 : Int) ≤ (k : Int) := by omega
      obtain ⟨bx, hbx⟩ : ∃ s, wr.heap.size = s := ⟨_, rfl⟩
      obtain ⟨W1, hW1⟩ : ∃ W1, wr.alloc (.cells #[.int .u32 (lh : Int), .int .u64 (lw : Int), .int .u32 (ll : Int), .int .u32 (lr : Int)] 65) = W1 := ⟨_, rfl⟩
      have HW1 : Hid (wr.alloc (.cells #[.int .u32 (lh : Int), .int .u64 (lw : Int), .int .u32 (ll : Int), .int .u32 (lr : Int)] 65) = W1) := hW1
      have H1 : Hid (∀ wx, Below W1.heap.size W1 wx → (wx.heap[z]? = some (.cells #[.slice no n nc, .slice uo fu uc, .slice ul p ulc, .slice wo fd wc, .slice dl q dlc] 25) ∧ wx.heap[bx]? = some (.cells #[.int .u32 (lh : Int), .int .u64 (lw : Int), .int .u32 (ll : Int), .int .u32 (lr : Int)] 65)) ∧ wx.ownsRow W0.heap.size 65 4 (.slice so k sc) k (lvs ((l.map (rTurnL p q)).take k)) ∧ Below W0.heap.size W0 wx) := fun wx hx => by
        have g1 : W1.heap[bx]? = some (.cells #[.int .u32 (lh : Int), .int .u64 (lw : Int), .int .u32 (ll : Int), .int .u32 (lr : Int)] 65) := by rw [← hW1, ← hbx]; exact heap_newW _ _
        have g2 : Below wr.heap.size wr W1 := by rw [← hW1]; exact (Below.refl _ _).alloc (Nat.le_refl _) _
        have g3 := btrH' g2 hx
        have g4 := btrH' HB.out g3
        exact ⟨⟨(HQ.out wx g4).1, (hx.block _ (some_lt g1)).trans g1⟩, own_upO HO.out g3, g4⟩
      have HOB : Hid (∀ g, (Value.slice so k sc).ownBlock = some g → g ≠ z ∧ g ≠ bx) := fun g hg => by
        have := HO.out.lt g hg
        have := HZ0.out.1
        omega
      clear hW1 ha hok hbl hx hy
      go_upto_region 5 with fail
      rw [HW1.out]
      clear HW1 c0 c1 c2 c3 hbx
      have HSS : Hid (∀ wx : World, (wx.heap[z]? = some (.cells #[.slice no n nc, .slice uo fu uc, .slice ul p ulc, .slice wo fd wc, .slice dl q dlc] 25) ∧ wx.heap[bx]? = some (.cells #[.int .u32 (lh : Int), .int .u64 (lw : Int), .int .u32 (ll : Int), .int .u32 (lr : Int)] 65)) → (fun w' => w'.cell? ⟨z, 0, none⟩ = some (.slice no n nc) ∧ w'.cell? ⟨z, 1, none⟩ = some (.slice uo fu uc) ∧ w'.cell? ⟨z, 2, none⟩ = some (.slice ul p ulc) ∧ w'.cell? ⟨z, 3, none⟩ = some (.slice wo fd wc) ∧ w'.cell? ⟨z, 4, none⟩ = some (.slice dl q dlc) ∧ w'.cell? ⟨bx, 0, none⟩ = some (.int .u32 (lh : Int)) ∧ w'.cell? ⟨bx, 1, none⟩ = some (.int .u64 (lw : Int)) ∧ w'.cell? ⟨bx, 2, none⟩ = some (.int .u32 (ll : Int)) ∧ w'.cell? ⟨bx, 3, none⟩ = some (.int .u32 (lr : Int)) ∧ Hid (w'.heap[z]? = some (.cells #[.slice no n nc, .slice uo fu uc, .slice ul p ulc, .slice wo fd wc, .slice dl q dlc] 25) ∧ w'.heap[bx]? = some (.cells #[.int .u32 (lh : Int), .int .u64 (lw : Int), .int .u32 (ll : Int), .int .u32 (lr : Int)] 65))) wx) := fun wx hx => by
        obtain ⟨a0, a1, a2, a3, a4⟩ := five_cells hx.1
        obtain ⟨b0, b1, b2, b3⟩ := four_at hx.2
        exact ⟨a0, a1, a2, a3, a4, b0, b1, b2, b3, hx⟩
      have HKS : Hid (∀ wx w' : World, (fun w' => w'.cell? ⟨z, 0, none⟩ = some (.slice no n nc) ∧ w'.cell? ⟨z, 1, none⟩ = some (.slice uo fu uc) ∧ w'.cell? ⟨z, 2, none⟩ = some (.slice ul p ulc) ∧ w'.cell? ⟨z, 3, none⟩ = some (.slice wo fd wc) ∧ w'.cell? ⟨z, 4, none⟩ = some (.slice dl q dlc) ∧ w'.cell? ⟨bx, 0, none⟩ = some (.int .u32 (lh : Int)) ∧ w'.cell? ⟨bx, 1, none⟩ = some (.int .u64 (lw : Int)) ∧ w'.cell? ⟨bx, 2, none⟩ = some (.int .u32 (ll : Int)) ∧ w'.cell? ⟨bx, 3, none⟩ = some (.int .u32 (lr : Int)) ∧ Hid (w'.heap[z]? = some (.cells #[.slice no n nc, .slice uo fu uc, .slice ul p ulc, .slice wo fd wc, .slice dl q dlc] 25) ∧ w'.heap[bx]? = some (.cells #[.int .u32 (lh : Int), .int .u64 (lw : Int), .int .u32 (ll : Int), .int .u32 (lr : Int)] 65))) wx → Below wx.heap.size wx w' → (fun w' => w'.cell? ⟨z, 0, none⟩ = some (.slice no n nc) ∧ w'.cell? ⟨z, 1, none⟩ = some (.slice uo fu uc) ∧ w'.cell? ⟨z, 2, none⟩ = some (.slice ul p ulc) ∧ w'.cell? ⟨z, 3, none⟩ = some (.slice wo fd wc) ∧ w'.cell? ⟨z, 4, none⟩ = some (.slice dl q dlc) ∧ w'.cell? ⟨bx, 0, none⟩ = some (.int .u32 (lh : Int)) ∧ w'.cell? ⟨bx, 1, none⟩ = some (.int .u64 (lw : Int)) ∧ w'.cell? ⟨bx, 2, none⟩ = some (.int .u32 (ll : Int)) ∧ w'.cell? ⟨bx, 3, none⟩ = some (.int .u32 (lr : Int)) ∧ Hid (w'.heap[z]? = some (.cells #[.slice no n nc, .slice uo fu uc, .slice ul p ulc, .slice wo fd wc, .slice dl q dlc] 25) ∧ w'.heap[bx]? = some (.cells #[.int .u32 (lh : Int), .int .u64 (lw : Int), .int .u32 (ll : Int), .int .u32 (lr : Int)] 65))) w') := fun wx w' hS hb => HSS.out w' ⟨(hb.block _ (some_lt hS.2.2.2.2.2.2.2.2.2.out.1)).trans hS.2.2.2.2.2.2.2.2.2.out.1, (hb.block _ (some_lt hS.2.2.2.2.2.2.2.2.2.out.2)).trans hS.2.2.2.2.2.2.2.2.2.out.2⟩
      have HC1 : Hid (∀ wx : World, (fun w' => w'.cell? ⟨z, 0, none⟩ = some (.slice no n nc) ∧ w'.cell? ⟨z, 1, none⟩ = some (.slice uo fu uc) ∧ w'.cell? ⟨z, 2, none⟩ = some (.slice ul p ulc) ∧ w'.cell? ⟨z, 3, none⟩ = some (.slice wo fd wc) ∧ w'.cell? ⟨z, 4, none⟩ = some (.slice dl q dlc) ∧ w'.cell? ⟨bx, 0, none⟩ = some (.int .u32 (lh : Int)) ∧ w'.cell? ⟨bx, 1, none⟩ = some (.int .u64 (lw : Int)) ∧ w'.cell? ⟨bx, 2, none⟩ = some (.int .u32 (ll : Int)) ∧ w'.cell? ⟨bx, 3, none⟩ = some (.int .u32 (lr : Int)) ∧ Hid (w'.heap[z]? = some (.cells #[.slice no n nc, .slice uo fu uc, .slice ul p ulc, .slice wo fd wc, .slice dl q dlc] 25) ∧ w'.heap[bx]? = some (.cells #[.int .u32 (lh : Int), .int .u64 (lw : Int), .int .u32 (ll : Int), .int .u32 (lr : Int)] 65))) wx → Calls Tryz.prog 129 #[(.agg #[.slice no n nc, .slice uo fu uc, .slice ul p ulc, .slice wo fd wc, .slice dl q dlc]), .int .u32 (lr : Int)] wx fun e w' => e = .returned (.int .u32 (x : Int)) ∧ Grows wx w' ∧ (fun w' => w'.cell? ⟨z, 0, none⟩ = some (.slice no n nc) ∧ w'.cell? ⟨z, 1, none⟩ = some (.slice uo fu uc) ∧ w'.cell? ⟨z, 2, none⟩ = some (.slice ul p ulc) ∧ w'.cell? ⟨z, 3, none⟩ = some (.slice wo fd wc) ∧ w'.cell? ⟨z, 4, none⟩ = some (.slice dl q dlc) ∧ w'.cell? ⟨bx, 0, none⟩ = some (.int .u32 (lh : Int)) ∧ w'.cell? ⟨bx, 1, none⟩ = some (.int .u64 (lw : Int)) ∧ w'.cell? ⟨bx, 2, none⟩ = some (.int .u32 (ll : Int)) ∧ w'.cell? ⟨bx, 3, none⟩ = some (.int .u32 (lr : Int)) ∧ Hid (w'.heap[z]? = some (.cells #[.slice no n nc, .slice uo fu uc, .slice ul p ulc, .slice wo fd wc, .slice dl q dlc] 25) ∧ w'.heap[bx]? = some (.cells #[.int .u32 (lh : Int), .int .u64 (lw : Int), .int .u32 (ll : Int), .int .u32 (lr : Int)] 65))) w') := fun wx hS => (HN1.out wx).mono (by rintro e w' ⟨rfl, hb⟩; exact ⟨rfl, hb, HKS.out wx w' hS hb⟩)
      have HC2 : Hid (∀ wx : World, (fun w' => w'.cell? ⟨z, 0, none⟩ = some (.slice no n nc) ∧ w'.cell? ⟨z, 1, none⟩ = some (.slice uo fu uc) ∧ w'.cell? ⟨z, 2, none⟩ = some (.slice ul p ulc) ∧ w'.cell? ⟨z, 3, none⟩ = some (.slice wo fd wc) ∧ w'.cell? ⟨z, 4, none⟩ = some (.slice dl q dlc) ∧ w'.cell? ⟨bx, 0, none⟩ = some (.int .u32 (lh : Int)) ∧ w'.cell? ⟨bx, 1, none⟩ = some (.int .u64 (lw : Int)) ∧ w'.cell? ⟨bx, 2, none⟩ = some (.int .u32 (ll : Int)) ∧ w'.cell? ⟨bx, 3, none⟩ = some (.int .u32 (lr : Int)) ∧ Hid (w'.heap[z]? = some (.cells #[.slice no n nc, .slice uo fu uc, .slice ul p ulc, .slice wo fd wc, .slice dl q dlc] 25) ∧ w'.heap[bx]? = some (.cells #[.int .u32 (lh : Int), .int .u64 (lw : Int), .int .u32 (ll : Int), .int .u32 (lr : Int)] 65))) wx → Calls Tryz.prog 129 #[(.agg #[.slice no n nc, .slice uo fu uc, .slice ul p ulc, .slice wo fd wc, .slice dl q dlc]), .int .u32 (ll : Int)] wx fun e w' => e = .returned (.int .u32 (y : Int)) ∧ Grows wx w' ∧ (fun w' => w'.cell? ⟨z, 0, none⟩ = some (.slice no n nc) ∧ w'.cell? ⟨z, 1, none⟩ = some (.slice uo fu uc) ∧ w'.cell? ⟨z, 2, none⟩ = some (.slice ul p ulc) ∧ w'.cell? ⟨z, 3, none⟩ = some (.slice wo fd wc) ∧ w'.cell? ⟨z, 4, none⟩ = some (.slice dl q dlc) ∧ w'.cell? ⟨bx, 0, none⟩ = some (.int .u32 (lh : Int)) ∧ w'.cell? ⟨bx, 1, none⟩ = some (.int .u64 (lw : Int)) ∧ w'.cell? ⟨bx, 2, none⟩ = some (.int .u32 (ll : Int)) ∧ w'.cell? ⟨bx, 3, none⟩ = some (.int .u32 (lr : Int)) ∧ Hid (w'.heap[z]? = some (.cells #[.slice no n nc, .slice uo fu uc, .slice ul p ulc, .slice wo fd wc, .slice dl q dlc] 25) ∧ w'.heap[bx]? = some (.cells #[.int .u32 (lh : Int), .int .u64 (lw : Int), .int .u32 (ll : Int), .int .u32 (lr : Int)] 65))) w') := fun wx hS => (HN2.out wx).mono (by rintro e w' ⟨rfl, hb⟩; exact ⟨rfl, hb, HKS.out wx w' hS hb⟩)
      refine wp_region_M (S := (fun w' => w'.cell? ⟨z, 0, none⟩ = some (.slice no n nc) ∧ w'.cell? ⟨z, 1, none⟩ = some (.slice uo fu uc) ∧ w'.cell? ⟨z, 2, none⟩ = some (.slice ul p ulc) ∧ w'.cell? ⟨z, 3, none⟩ = some (.slice wo fd wc) ∧ w'.cell? ⟨z, 4, none⟩ = some (.slice dl q dlc) ∧ w'.cell? ⟨bx, 0, none⟩ = some (.int .u32 (lh : Int)) ∧ w'.cell? ⟨bx, 1, none⟩ = some (.int .u64 (lw : Int)) ∧ w'.cell? ⟨bx, 2, none⟩ = some (.int .u32 (ll : Int)) ∧ w'.cell? ⟨bx, 3, none⟩ = some (.int .u32 (lr : Int)) ∧ Hid (w'.heap[z]? = some (.cells #[.slice no n nc, .slice uo fu uc, .slice ul p ulc, .slice wo fd wc, .slice dl q dlc] 25) ∧ w'.heap[bx]? = some (.cells #[.int .u32 (lh : Int), .int .u64 (lw : Int), .int .u32 (ll : Int), .int .u32 (lr : Int)] 65)))) (by kernel_rfl) (HSS.out _ (H1.out _ (Below.refl _ _).drew).1) ?_
      refine wpAnyM_take (i := 0) (oi := { dst := Option.some 14, op := Op.move (Operand.tmp 5), type := 23, pos := "ref.go:206", after := #[], guard := Option.none }) (v := ?va0) rfl (by kernel_rfl) (by kernel_rfl) (by kernel_rfl) (fun _ _ _ h => h) (YieldsM.of_if (Or.inl ⟨by rfl, ?ha0⟩)) ?ra0
      case ha0 => ((intro wz hSw; (try dsimp only at hSw); go_simp); try (with_reducible rfl))
      try simp only [Act.put, List.setIfInBounds_toArray, List.set_cons_zero, List.set_cons_succ]
      refine wpAnyM_take (i := 1) (oi := { dst := Option.some 15, op := Op.fieldAddr 65 (Operand.tmp 7) 0, type := 0, pos := "ref.go:206", after := #[], guard := Option.none }) (v := ?va1) rfl (by kernel_rfl) (by kernel_rfl) (by kernel_rfl) (fun _ _ _ h => h) (YieldsM.of_if (Or.inl ⟨by rfl, ?ha1⟩)) ?ra1
      case ha1 => ((intro wz hSw; (try dsimp only at hSw); go_simp); try (with_reducible rfl))
      try simp only [Act.put, List.setIfInBounds_toArray, List.set_cons_zero, List.set_cons_succ]
      refine wpAnyM_take (i := 2) (oi := { dst := Option.some 16, op := Op.load 62 (Operand.tmp 15), type := 62, pos := "ref.go:206", after := #[{ on := 1, ground := Ground.data }], guard := Option.none }) (v := ?va2) rfl (by kernel_rfl) (by kernel_rfl) (by kernel_rfl) (fun _ _ _ h => h) (YieldsM.of_if (Or.inl ⟨by rfl, ?ha2⟩)) ?ra2
      case ha2 => ((intro wz hSw; (try dsimp only at hSw); go_simp); try (with_reducible rfl))
      try simp only [Act.put, List.setIfInBounds_toArray, List.set_cons_zero, List.set_cons_succ]
      refine wpAnyM_take (i := 3) (oi := { dst := Option.some 17, op := Op.fieldAddr 65 (Operand.tmp 7) 1, type := 0, pos := "ref.go:206", after := #[], guard := Option.none }) (v := ?va3) rfl (by kernel_rfl) (by kernel_rfl) (by kernel_rfl) (fun _ _ _ h => h) (YieldsM.of_if (Or.inl ⟨by rfl, ?ha3⟩)) ?ra3
      case ha3 => ((intro wz hSw; (try dsimp only at hSw); go_simp); try (with_reducible rfl))
      try simp only [Act.put, List.setIfInBounds_toArray, List.set_cons_zero, List.set_cons_succ]
      refine wpAnyM_take (i := 4) (oi := { dst := Option.some 18, op := Op.load 45 (Operand.tmp 17), type := 45, pos := "ref.go:206", after := #[{ on := 3, ground := Ground.data }], guard := Option.none }) (v := ?va4) rfl (by kernel_rfl) (by kernel_rfl) (by kernel_rfl) (fun _ _ _ h => h) (YieldsM.of_if (Or.inl ⟨by rfl, ?ha4⟩)) ?ra4
      case ha4 => ((intro wz hSw; (try dsimp only at hSw); go_simp); try (with_reducible rfl))
      try simp only [Act.put, List.setIfInBounds_toArray, List.set_cons_zero, List.set_cons_succ]
      refine wpAnyM_take (i := 5) (oi := { dst := Option.some 19, op := Op.load 25 (Operand.tmp 2), type := 25, pos := "ref.go:206", after := #[], guard := Option.none }) (v := ?va5) rfl (by kernel_rfl) (by kernel_rfl) (by kernel_rfl) (fun _ _ _ h => h) (YieldsM.of_if (Or.inl ⟨by rfl, ?ha5⟩)) ?ra5
      case ha5 => ((intro wz hSw; (try dsimp only at hSw); go_simp); try (with_reducible rfl))
      try simp only [Act.put, List.setIfInBounds_toArray, List.set_cons_zero, List.set_cons_succ]
      refine wpAnyM_take (i := 6) (oi := { dst := Option.some 20, op := Op.fieldAddr 65 (Operand.tmp 7) 3, type := 0, pos := "ref.go:206", after := #[], guard := Option.none }) (v := ?va6) rfl (by kernel_rfl) (by kernel_rfl) (by kernel_rfl) (fun _ _ _ h => h) (YieldsM.of_if (Or.inl ⟨by rfl, ?ha6⟩)) ?ra6
      case ha6 => ((intro wz hSw; (try dsimp only at hSw); go_simp); try (with_reducible rfl))
      try simp only [Act.put, List.setIfInBounds_toArray, List.set_cons_zero, List.set_cons_succ]
      refine wpAnyM_take (i := 7) (oi := { dst := Option.some 21, op := Op.load 62 (Operand.tmp 20), type := 62, pos := "ref.go:206", after := #[{ on := 6, ground := Ground.data }], guard := Option.none }) (v := ?va7) rfl (by kernel_rfl) (by kernel_rfl) (by kernel_rfl) (fun _ _ _ h => h) (YieldsM.of_if (Or.inl ⟨by rfl, ?ha7⟩)) ?ra7
      case ha7 => ((intro wz hSw; (try dsimp only at hSw); go_simp); try (with_reducible rfl))
      try simp only [Act.put, List.setIfInBounds_toArray, List.set_cons_zero, List.set_cons_succ]
      refine wpAnyM_take (i := 8) (oi := { dst := Option.some 22, op := Op.call { callee := Callee.value (Operand.func 129), args := #[Operand.tmp 19, Operand.tmp 21], argTypes := #[25, 62] }, type := 62, pos := "ref.go:206", after := #[{ on := 5, ground := Ground.data }, { on := 7, ground := Ground.data }], guard := Option.none }) (v := (.int .u32 (x : Int))) rfl (by kernel_rfl) (by kernel_rfl) (by kernel_rfl) (fun _ _ _ h => h) (YieldsM.of_call (f := 129) (by rfl) (fun _ _ => by kernel_rfl) (HC1.out)) ?_
      try simp only [Act.put, List.setIfInBounds_toArray, List.set_cons_zero, List.set_cons_succ]
      refine wpAnyM_take (i := 9) (oi := { dst := Option.some 23, op := Op.load 25 (Operand.tmp 2), type := 25, pos := "ref.go:206", after := #[], guard := Option.none }) (v := ?va9) rfl (by kernel_rfl) (by kernel_rfl) (by kernel_rfl) (fun _ _ _ h => h) (YieldsM.of_if (Or.inl ⟨by rfl, ?ha9⟩)) ?ra9
      case ha9 => ((intro wz hSw; (try dsimp only at hSw); go_simp); try (with_reducible rfl))
      try simp only [Act.put, List.setIfInBounds_toArray, List.set_cons_zero, List.set_cons_succ]
      refine wpAnyM_take (i := 10) (oi := { dst := Option.some 24, op := Op.fieldAddr 65 (Operand.tmp 7) 2, type := 0, pos := "ref.go:206", after := #[], guard := Option.none }) (v := ?va10) rfl (by kernel_rfl) (by kernel_rfl) (by kernel_rfl) (fun _ _ _ h => h) (YieldsM.of_if (Or.inl ⟨by rfl, ?ha10⟩)) ?ra10
      case ha10 => ((intro wz hSw; (try dsimp only at hSw); go_simp); try (with_reducible rfl))
      try simp only [Act.put, List.setIfInBounds_toArray, List.set_cons_zero, List.set_cons_succ]
      refine wpAnyM_take (i := 11) (oi := { dst := Option.some 25, op := Op.load 62 (Operand.tmp 24), type := 62, pos := "ref.go:206", after := #[{ on := 10, ground := Ground.data }], guard := Option.none }) (v := ?va11) rfl (by kernel_rfl) (by kernel_rfl) (by kernel_rfl) (fun _ _ _ h => h) (YieldsM.of_if (Or.inl ⟨by rfl, ?ha11⟩)) ?ra11
      case ha11 => ((intro wz hSw; (try dsimp only at hSw); go_simp); try (with_reducible rfl))
      try simp only [Act.put, List.setIfInBounds_toArray, List.set_cons_zero, List.set_cons_succ]
      refine wpAnyM_take (i := 12) (oi := { dst := Option.some 26, op := Op.call { callee := Callee.value (Operand.func 129), args := #[Operand.tmp 23, Operand.tmp 25], argTypes := #[25, 62] }, type := 62, pos := "ref.go:206", after := #[{ on := 9, ground := Ground.data }, { on := 11, ground := Ground.data }, { on := 8, ground := Ground.chain }], guard := Option.none }) (v := (.int .u32 (y : Int))) rfl (by kernel_rfl) (by kernel_rfl) (by kernel_rfl) (fun _ _ _ h => h) (YieldsM.of_call (f := 129) (by rfl) (fun _ _ => by kernel_rfl) (HC2.out)) ?_
      try simp only [Act.put, List.setIfInBounds_toArray, List.set_cons_zero, List.set_cons_succ]
      refine wpAnyM_take (i := 13) (oi := { dst := Option.some 27, op := Op.build 65 #[(0, Operand.tmp 16), (1, Operand.tmp 18), (2, Operand.tmp 22), (3, Operand.tmp 26)], type := 65, pos := "ref.go:206", after := #[{ on := 2, ground := Ground.data }, { on := 4, ground := Ground.data }, { on := 8, ground := Ground.data }, { on := 12, ground := Ground.data }], guard := Option.none }) (v := ?va13) rfl (by kernel_rfl) (by kernel_rfl) (by kernel_rfl) (fun _ _ _ h => h) (YieldsM.of_if (Or.inl ⟨by rfl, ?ha13⟩)) ?ra13
      case ha13 => ((intro wz hSw; (try dsimp only at hSw); go_simp); try (with_reducible rfl))
      try simp only [Act.put, List.setIfInBounds_toArray, List.set_cons_zero, List.set_cons_succ]
      have F1 : Hid (∀ wx, Below W1.drew.heap.size W1.drew wx → (wx.heap[z]? = some (.cells #[.slice no n nc, .slice uo fu uc, .slice ul p ulc, .slice wo fd wc, .slice dl q dlc] 25) ∧ wx.heap[bx]? = some (.cells #[.int .u32 (lh : Int), .int .u64 (lw : Int), .int .u32 (ll : Int), .int .u32 (lr : Int)] 65)) ∧ wx.ownsRow W0.heap.size 65 4 (.slice so k sc) k (lvs ((l.map (rTurnL p q)).take k)) ∧ Below W0.heap.size W0 wx) := fun wx hx => H1.out wx (btrH' (Below.refl _ _).drew hx)
      refine readyM (i := 14) (o := { dst := Option.some 28, op := Op.buildSlice 23 1 #[(0, Operand.tmp 27)], type := 23, pos := "ref.go:206", after := #[{ on := 13, ground := Ground.data }], guard := Option.none }) rfl (by kernel_rfl) ?_
      intro u1 hg1 hS1 K hK
      have hf := F1.out u1 hg1
      have hbs := build_lk (lh : Int) (lw : Int) (x : Int) (y : Int)
      have F2 : Hid (∀ wx, Below (u1.alloc (.cells #[.int .u32 (lh : Int), .int .u64 (lw : Int), .int .u32 (x : Int), .int .u32 (y : Int)] 65)).heap.size (u1.alloc (.cells #[.int .u32 (lh : Int), .int .u64 (lw : Int), .int .u32 (x : Int), .int .u32 (y : Int)] 65)) wx → ((wx.heap[z]? = some (.cells #[.slice no n nc, .slice uo fu uc, .slice ul p ulc, .slice wo fd wc, .slice dl q dlc] 25) ∧ wx.heap[bx]? = some (.cells #[.int .u32 (lh : Int), .int .u64 (lw : Int), .int .u32 (ll : Int), .int .u32 (lr : Int)] 65)) ∧ wx.ownsRow W0.heap.size 65 4 (.slice so k sc) k (lvs ((l.map (rTurnL p q)).take k)) ∧ Below W0.heap.size W0 wx) ∧ wx.heap[u1.heap.size]? = some (.cells #[.int .u32 (lh : Int), .int .u64 (lw : Int), .int .u32 (x : Int), .int .u32 (y : Int)] 65)) := fun wx hx => by
        have g1 := heap_newW u1 (.cells #[.int .u32 (lh : Int), .int .u64 (lw : Int), .int .u32 (x : Int), .int .u32 (y : Int)] 65)
        have g2 : Below u1.heap.size u1 (u1.alloc (.cells #[.int .u32 (lh : Int), .int .u64 (lw : Int), .int .u32 (x : Int), .int .u32 (y : Int)] 65)) := (Below.refl _ _).alloc (Nat.le_refl _) _
        exact ⟨F1.out wx (btrH' hg1 (btrH' g2 hx)), (hx.block _ (some_lt g1)).trans g1⟩
      clear hS1
      go_simp
      refine hK.out _ _ (HSS.out _ (F2.out _ (Below.refl _ _)).1.1) ?_
      clear hK K hbs
      obtain ⟨g, hgg⟩ : ∃ g, u1.heap.size = g := ⟨_, rfl⟩
      rw [hgg] at F2 ⊢
      generalize u1.alloc (.cells #[.int .u32 (lh : Int), .int .u64 (lw : Int), .int .u32 (x : Int), .int .u32 (y : Int)] 65) = U2 at F2 ⊢
      clear hgg hf hg1 F1
      try simp only [Act.put, List.setIfInBounds_toArray, List.set_cons_zero, List.set_cons_succ]
      refine readyM (i := 15) (o := { dst := Option.some 29, op := Op.call { callee := Callee.builtin Builtin.append, args := #[Operand.tmp 14, Operand.tmp 28], argTypes := #[23, 23] }, type := 23, pos := "ref.go:206", after := #[{ on := 0, ground := Ground.data }, { on := 14, ground := Ground.data }, { on := 12, ground := Ground.chain }], guard := Option.none }) rfl (by kernel_rfl) ?_
      intro u3 hg3 hS3 K hK
      rw [if_pos (by rfl)]
      have hf := F2.out u3 hg3
      refine wp_append_own u3 _ _ 23 rfl W0.heap.size 65 i0 (.agg #[.int .u32 0, .int .u64 0, .int .u32 0, .int .u32 0]) 4 24 Tryz.underlying23 HI.out.1 HI.out.2.1 HI.out.2.2.1 HI.out.2.2.2 rfl (by decide) (.slice so k sc) k (lvs ((l.map (rTurnL p q)).take k)) rfl hf.1.2.1 ⟨g, 0, none⟩ 1 1 (lvs [⟨lh, lw, x, y⟩]) rfl rfl (by
        obtain ⟨b0, b1, b2, b3⟩ := four_at hf.2
        exact cells_four b0 b1 b2 b3) (lvs_one _) (by unfold maxLen; omega) (by omega) hf.1.2.2.size ?_
      intro v5 w5 hown5 hgr5 _
      have H5 : Hid (w5.ownsRow W0.heap.size 65 4 v5 (k + 1) (lvs ((l.map (rTurnL p q)).take (k + 1))) ∧ Below W0.heap.size W0 w5) := ⟨by rw [HT1.out, lvs_append]; exact hown5, below_grown hf.1.2.2 hf.1.2.1 hgr5 hf.1.2.2.size⟩
      have HZB : Hid (w5.heap[z]? = some (.cells #[.slice no n nc, .slice uo fu uc, .slice ul p ulc, .slice wo fd wc, .slice dl q dlc] 25) ∧ w5.heap[bx]? = some (.cells #[.int .u32 (lh : Int), .int .u64 (lw : Int), .int .u32 (ll : Int), .int .u32 (lr : Int)] 65)) := ⟨(hgr5.block z (some_lt hf.1.1.1) (fun e => (HOB.out z e.symm).1 rfl)).trans hf.1.1.1, (hgr5.block bx (some_lt hf.1.1.2) (fun e => (HOB.out bx e.symm).2 rfl)).trans hf.1.1.2⟩
      clear hown5 hgr5 hf hg3 hS3 F2
      obtain ⟨po, pc, hv5⟩ := own_slice H5.out.1
      subst hv5
      refine hK.out _ _ (HSS.out _ HZB.out) ?_
      clear hK K
      try simp only [Act.put, List.setIfInBounds_toArray, List.set_cons_zero, List.set_cons_succ]
      refine wpAnyM_take (i := 16) (oi := { dst := Option.some 5, op := Op.assign (Operand.tmp 29), type := 23, pos := "ref.go:206", after := #[{ on := 15, ground := Ground.data }, { on := 15, ground := Ground.chain }, { on := 0, ground := Ground.phase }, { on := 1, ground := Ground.phase }, { on := 2, ground := Ground.phase }, { on := 3, ground := Ground.phase }, { on := 4, ground := Ground.phase }, { on := 5, ground := Ground.phase }, { on := 6, ground := Ground.phase }, { on := 7, ground := Ground.phase }, { on := 8, ground := Ground.phase }, { on := 9, ground := Ground.phase }, { on := 10, ground := Ground.phase }, { on := 11, ground := Ground.phase }, { on := 12, ground := Ground.phase }, { on := 13, ground := Ground.phase }, { on := 14, ground := Ground.phase }, { on := 15, ground := Ground.phase }], guard := Option.none }) (v := ?vc16) rfl (by kernel_rfl) (by kernel_rfl) (by kernel_rfl) (fun _ _ _ h => h) (YieldsM.of_if (Or.inl ⟨by rfl, ?hc16⟩)) ?rc16
      case hc16 => ((intro wz hSw; (try dsimp only at hSw); go_simp); try (with_reducible rfl))
      try simp only [Act.put, List.setIfInBounds_toArray, List.set_cons_zero, List.set_cons_succ]
      refine wpAnyM_done (by kernel_rfl) ?_ _
      intro u6 hg6 hS6
      have H6 : Hid (u6.ownsRow W0.heap.size 65 4 (.slice po (k + 1) pc) (k + 1) (lvs ((l.map (rTurnL p q)).take (k + 1))) ∧ Below W0.heap.size W0 u6) := ⟨own_upO H5.out.1 hg6, btrH' H5.out.2 hg6⟩
      clear hS6 hg6 H5 HZB
      go_wp2
      go_roundw
      case rel => exact ⟨k + 1, po, pc, by omega, by go_num, rfl, H6.out.1, H6.out.2⟩
      case measure => simp [intOf]; omega
    · obtain rfl : k = l.length := by omega
      have HK2 : Hid (wr.ownsRow w.heap.size 65 4 (.slice so l.length sc) l.length (lvs (l.map (rTurnL p q))) ∧ Below w.heap.size w wr) := ⟨own_lowO (by have g := HO.out; rw [show l.length = (l.map (rTurnL p q)).length by simp, List.take_length] at g; simpa using g) HZ0.out.2, (HQ.out wr HB.out).2.2⟩
      clear HO HB
      go_wp2_with fail
      go_ret
      exact ⟨so, sc, rfl, HK2.out.1, HK2.out.2⟩
theorem turned_calls (v : HV) (h : Hr) (lo : Option Addr) (lc : Nat) (l : List Lk) (w : World) (hl : HasLs w (.slice lo l.length lc) l) (hm : l.length * 24 ≤ 140737488351232) (hL : h.up.length + h.dn.length ≤ 1048576) :
    Calls Tryz.prog 120 #[hvl v h, .slice lo l.length lc] w fun e w' => ∃ mo mc, e = .returned (.slice mo l.length mc) ∧ w'.ownsRow w.heap.size 65 4 (.slice mo l.length mc) l.length (lvs (l.map (rTurnL h.up.length h.dn.length))) ∧ Below w.heap.size w w' :=
  turned_aux v.no v.uo v.ul v.wo v.dl v.nc v.uc v.ulc v.wc v.dlc h.node.length h.upF.length h.up.length h.dnF.length h.dn.length lo lc l w (fun i wx hi => number_calls v h i wx hi hL) hl hm
/-- the rows lie no lower. -/
def HighV (B : Nat) (u : HV) : Prop := (∀ a, u.no = some a → B ≤ a.block) ∧ (∀ a, u.uo = some a → B ≤ a.block) ∧ (∀ a, u.ul = some a → B ≤ a.block) ∧ (∀ a, u.wo = some a → B ≤ a.block) ∧ ∀ a, u.dl = some a → B ≤ a.block
theorem rturn_eq {h : Hr} (hc : chk h = (0, [])) {l : Lk} (hl : l ∈ h.up ∨ l ∈ h.dn) : rTurnL h.up.length h.dn.length l = turnL h.up.length h.dn.length l := by
  obtain ⟨k1, k2, _⟩ := chk_ok hc
  unfold rTurnL turnL
  by_cases hp : l.plain = true
  · rw [if_pos hp]
    obtain ⟨lh, lw, ll, lr⟩ := l
    simp only [Lk.plain] at hp
    simp at hp
    obtain ⟨rfl, rfl⟩ := hp
    rfl
  · rw [if_neg hp]
    obtain ⟨q1, q2, q3⟩ := kids_mem hc hl (by simpa using hp)
    unfold numT
    rw [if_neg (by omega), if_pos q3, if_neg (by omega), if_neg (by omega)]
theorem rturn_map {h : Hr} (hc : chk h = (0, [])) {L : List Lk} (hl : L = h.up ∨ L = h.dn) : L.map (rTurnL h.up.length h.dn.length) = L.map (turnL h.up.length h.dn.length) := by
  refine List.map_congr_left fun l hm => rturn_eq hc ?_
  rcases hl with rfl | rfl
  · exact Or.inl hm
  · exact Or.inr hm
theorem rturn_res {W : World} {z : Nat} {x0 x1 x2 x3 x4 : Value} {tmps : Array Value} (h1 : W.heap[z]? = some (.cells #[x0, x1, x2, x3, x4] 25)) (t4 : tmps[2]?.getD undef = .pointer (some ⟨z, 0, none⟩)) :
    (results Tryz.f101 tmps).run Tryz.prog W = .ok (.agg #[x0, x1, x2, x3, x4]) W := by
  obtain ⟨c0, c1, c2, c3, c4⟩ := five_cells h1
  simp [results, Tryz.results101, go_sem, t4, c0, c1, c2, c3, c4]

set_option maxRecDepth 100000 in
set_option maxHeartbeats 4000000 in
theorem rTurn_high (v : HV) (h : Hr) (w : World) (hH : HasH w v h) (hr : Reach h) (hc : chk h = (0, [])) :
    Calls Tryz.prog 101 #[hvl v h] w fun e w' => ∃ u, e = .returned (hvl u (turnH h)) ∧ HasH w' u (turnH h) ∧ HighV w.heap.size u ∧ Below w.heap.size w w' := by
  obtain ⟨z, hz⟩ : ∃ z, w.heap.size = z := ⟨_, rfl⟩
  obtain ⟨W0, hW0⟩ : ∃ W0, (w.alloc (.cells (cellsH v h) 25)).alloc (.cells #[.slice none 0 0, .slice none 0 0, .slice none 0 0, .slice none 0 0, .slice none 0 0] 25) = W0 := ⟨_, rfl⟩
  have hB0 : Below w.heap.size w W0 := by rw [← hW0]; exact ((Below.refl _ w).alloc (Nat.le_refl _) _).alloc (by simp) _
  have h0 : W0.heap[z]? = some (.cells (cellsH v h) 25) := by
    rw [← hW0, ← hz]; exact (Below.heap_alloc _ _ _ (by simp)).trans (heap_newW _ _)
  have h1 : W0.heap[z + 1]? = some (.cells #[.slice none 0 0, .slice none 0 0, .slice none 0 0, .slice none 0 0, .slice none 0 0] 25) := by
    have g := heap_newW (w.alloc (.cells (cellsH v h) 25)) (.cells #[.slice none 0 0, .slice none 0 0, .slice none 0 0, .slice none 0 0, .slice none 0 0] 25)
    rw [World.size_alloc, hW0, hz] at g
    exact g
  have hpq : h.up.length + h.dn.length ≤ 1048576 := (chk_ok hc).2.1
  have HOKL : Hid ((∀ l ∈ h.dn.map (turnL h.up.length h.dn.length), l.ok) ∧ ∀ l ∈ h.up.map (turnL h.up.length h.dn.length), l.ok) := by
    refine ⟨fun l hl => ?_, fun l hl => ?_⟩
    · obtain ⟨m, hm, rfl⟩ := List.mem_map.1 hl
      exact turnL_ok hpq (fun hp => kids_mem hc (Or.inr hm) hp) (hH.dn.ok m hm)
    · obtain ⟨m, hm, rfl⟩ := List.mem_map.1 hl
      exact turnL_ok hpq (fun hp => kids_mem hc (Or.inl hm) hp) (hH.up.ok m hm)
  have HB0 : Hid (∀ wx, Below W0.heap.size W0 wx → Below w.heap.size w wx ∧ wx.heap[z + 1]? = some (.cells #[.slice none 0 0, .slice none 0 0, .slice none 0 0, .slice none 0 0, .slice none 0 0] 25)) := fun wx hx => ⟨hB0.trans (hx.mono hB0.size), (hx.block _ (some_lt h1)).trans h1⟩
  have HQ : Hid (∀ wx, Below W0.heap.size W0 wx → wx.cell? ⟨z, 0, none⟩ = some (.slice v.no h.node.length v.nc) ∧ wx.cell? ⟨z, 1, none⟩ = some (.slice v.uo h.upF.length v.uc) ∧ wx.cell? ⟨z, 2, none⟩ = some (.slice v.ul h.up.length v.ulc) ∧ wx.cell? ⟨z, 3, none⟩ = some (.slice v.wo h.dnF.length v.wc) ∧ wx.cell? ⟨z, 4, none⟩ = some (.slice v.dl h.dn.length v.dlc)) := fun wx hx => five_cells ((hx.block _ (some_lt h0)).trans h0)
  have HZ : Hid (∀ wx, Below W0.heap.size W0 wx → (∀ i, i < 5 → wx.cell? ⟨z + 1, i, none⟩ = some (.slice none 0 0)) ∧ ∀ i, wx.frozen? ⟨z + 1, i, none⟩ = false) := fun wx hx => by
    have g := (hx.block _ (some_lt h1)).trans h1
    refine ⟨fun i hi => ?_, fun i => by simp [World.frozen?, g]⟩
    rcases (show i = 0 ∨ i = 1 ∨ i = 2 ∨ i = 3 ∨ i = 4 by omega) with rfl | rfl | rfl | rfl | rfl <;> simp [World.cell?, g]
  have H1 : Hid (∀ wx, Below W0.heap.size W0 wx → Calls Tryz.prog 33 #[.slice v.no h.node.length v.nc] wx fun e w' => ∃ mo mc, e = .returned (.slice mo h.node.length mc) ∧ HasWs w' (.slice mo h.node.length mc) h.node ∧ (∀ a, mo = some a → W0.heap.size ≤ a.block) ∧ Below wx.heap.size wx w') := fun wx hx => (twords_calls _ _ _ wx (hH.node.keep (hB0.trans (hx.mono hB0.size))) hr.node).mono (by rintro e w' ⟨mo, mc, rfl, ho, hb⟩; exact ⟨mo, mc, rfl, ws_of_own ho hH.node.ok, fun a ea => Nat.le_trans hx.size (own_high ho a ea), hb⟩)
  have H2 : Hid (∀ wx, Below W0.heap.size W0 wx → Calls Tryz.prog 33 #[.slice v.wo h.dnF.length v.wc] wx fun e w' => ∃ mo mc, e = .returned (.slice mo h.dnF.length mc) ∧ HasWs w' (.slice mo h.dnF.length mc) h.dnF ∧ (∀ a, mo = some a → W0.heap.size ≤ a.block) ∧ Below wx.heap.size wx w') := fun wx hx => (twords_calls _ _ _ wx (hH.dnF.keep (hB0.trans (hx.mono hB0.size))) hr.dnF).mono (by rintro e w' ⟨mo, mc, rfl, ho, hb⟩; exact ⟨mo, mc, rfl, ws_of_own ho hH.dnF.ok, fun a ea => Nat.le_trans hx.size (own_high ho a ea), hb⟩)
  have H3 : Hid (∀ wx, Below W0.heap.size W0 wx → Calls Tryz.prog 120 #[hvl v h, .slice v.dl h.dn.length v.dlc] wx fun e w' => ∃ mo mc, e = .returned (.slice mo h.dn.length mc) ∧ HasLs w' (.slice mo h.dn.length mc) (h.dn.map (turnL h.up.length h.dn.length)) ∧ (∀ a, mo = some a → W0.heap.size ≤ a.block) ∧ Below wx.heap.size wx w') := fun wx hx => (turned_calls v h _ _ _ wx (hH.dn.keep (hB0.trans (hx.mono hB0.size))) hr.dn hpq).mono (by
    rintro e w' ⟨mo, mc, rfl, ho, hb⟩
    rw [rturn_map hc (Or.inr rfl)] at ho
    exact ⟨mo, mc, rfl, ls_of_own (by rw [List.length_map]; exact ho) HOKL.out.1, fun a ea => Nat.le_trans hx.size (own_high ho a ea), hb⟩)
  have H4 : Hid (∀ wx, Below W0.heap.size W0 wx → Calls Tryz.prog 33 #[.slice v.uo h.upF.length v.uc] wx fun e w' => ∃ mo mc, e = .returned (.slice mo h.upF.length mc) ∧ HasWs w' (.slice mo h.upF.length mc) h.upF ∧ (∀ a, mo = some a → W0.heap.size ≤ a.block) ∧ Below wx.heap.size wx w') := fun wx hx => (twords_calls _ _ _ wx (hH.upF.keep (hB0.trans (hx.mono hB0.size))) hr.upF).mono (by rintro e w' ⟨mo, mc, rfl, ho, hb⟩; exact ⟨mo, mc, rfl, ws_of_own ho hH.upF.ok, fun a ea => Nat.le_trans hx.size (own_high ho a ea), hb⟩)
  have H5 : Hid (∀ wx, Below W0.heap.size W0 wx → Calls Tryz.prog 120 #[hvl v h, .slice v.ul h.up.length v.ulc] wx fun e w' => ∃ mo mc, e = .returned (.slice mo h.up.length mc) ∧ HasLs w' (.slice mo h.up.length mc) (h.up.map (turnL h.up.length h.dn.length)) ∧ (∀ a, mo = some a → W0.heap.size ≤ a.block) ∧ Below wx.heap.size wx w') := fun wx hx => (turned_calls v h _ _ _ wx (hH.up.keep (hB0.trans (hx.mono hB0.size))) hr.up hpq).mono (by
    rintro e w' ⟨mo, mc, rfl, ho, hb⟩
    rw [rturn_map hc (Or.inl rfl)] at ho
    exact ⟨mo, mc, rfl, ls_of_own (by rw [List.length_map]; exact ho) HOKL.out.2, fun a ea => Nat.le_trans hx.size (own_high ho a ea), hb⟩)
  have HW0 : Hid ((w.alloc (.cells (cellsH v h) 25)).alloc (.cells #[.slice none 0 0, .slice none 0 0, .slice none 0 0, .slice none 0 0, .slice none 0 0] 25) = W0) := hW0
  have HLE : Hid (w.heap.size ≤ W0.heap.size) := hB0.size
  clear hW0 h0 h1 hB0 hH hr hc hpq HOKL
  have Y0 : Hid (Below W0.heap.size W0 W0) := Below.refl _ _
  obtain ⟨a0, a1, a2, a3, a4⟩ := HQ.out W0 Y0.out
  have HZZ : Hid (w.heap.size = z) := hz
  unfold cellsH at HW0
  unfold hvl at H3 H5
  unfold hvl
  go_enter Tryz.func101, Tryz.ntmps101
  go_upto_region 1 with fail
  rw [HW0.out]
  go_region_held3 (fun w' => w'.cell? ⟨z, 0, none⟩ = some (.slice v.no h.node.length v.nc) ∧ w'.cell? ⟨z, 1, none⟩ = some (.slice v.uo h.upF.length v.uc) ∧ w'.cell? ⟨z, 2, none⟩ = some (.slice v.ul h.up.length v.ulc) ∧ w'.cell? ⟨z, 3, none⟩ = some (.slice v.wo h.dnF.length v.wc) ∧ w'.cell? ⟨z, 4, none⟩ = some (.slice v.dl h.dn.length v.dlc)) (go_keep) (first
    | (go_at_call 120; refine (H5.out _ Y4.out).mono ?_; rintro e y5 ⟨m5, c5, rfl, hh, hg, hy⟩; have G5 : Hid (∀ a, m5 = some a → W0.heap.size ≤ a.block) := hg; clear hg; have Y5 : Hid (Below W0.heap.size W0 y5) := btrH' Y4.out hy; have X5_1 : Hid (HasWs y5 (.slice m1 h.node.length c1) h.node) := X4_1.out.keep hy; have X5_2 : Hid (HasWs y5 (.slice m2 h.dnF.length c2) h.dnF) := X4_2.out.keep hy; have X5_3 : Hid (HasLs y5 (.slice m3 h.dn.length c3) (h.dn.map (turnL h.up.length h.dn.length))) := X4_3.out.keep hy; have X5_4 : Hid (HasWs y5 (.slice m4 h.upF.length c4) h.upF) := X4_4.out.keep hy; have X5_5 : Hid (HasLs y5 (.slice m5 h.up.length c5) (h.up.map (turnL h.up.length h.dn.length))) := hh; obtain ⟨a0, a1, a2, a3, a4⟩ := HQ.out y5 Y5.out; obtain ⟨k0, k1⟩ := HZ.out y5 Y5.out; have k2 := k0 0 (by omega); have k3 := k0 1 (by omega); have k4 := k0 2 (by omega); have k5 := k0 3 (by omega); have k6 := k0 4 (by omega); have l2 := k1 0; have l3 := k1 1; have l4 := k1 2; have l5 := k1 3; have l6 := k1 4; clear k0 k1; clear hy hh)
    | (go_at_call 33; refine (H4.out _ Y3.out).mono ?_; rintro e y4 ⟨m4, c4, rfl, hh, hg, hy⟩; have G4 : Hid (∀ a, m4 = some a → W0.heap.size ≤ a.block) := hg; clear hg; have Y4 : Hid (Below W0.heap.size W0 y4) := btrH' Y3.out hy; have X4_1 : Hid (HasWs y4 (.slice m1 h.node.length c1) h.node) := X3_1.out.keep hy; have X4_2 : Hid (HasWs y4 (.slice m2 h.dnF.length c2) h.dnF) := X3_2.out.keep hy; have X4_3 : Hid (HasLs y4 (.slice m3 h.dn.length c3) (h.dn.map (turnL h.up.length h.dn.length))) := X3_3.out.keep hy; have X4_4 : Hid (HasWs y4 (.slice m4 h.upF.length c4) h.upF) := hh; obtain ⟨a0, a1, a2, a3, a4⟩ := HQ.out y4 Y4.out; clear hy hh)
    | (go_at_call 120; refine (H3.out _ Y2.out).mono ?_; rintro e y3 ⟨m3, c3, rfl, hh, hg, hy⟩; have G3 : Hid (∀ a, m3 = some a → W0.heap.size ≤ a.block) := hg; clear hg; have Y3 : Hid (Below W0.heap.size W0 y3) := btrH' Y2.out hy; have X3_1 : Hid (HasWs y3 (.slice m1 h.node.length c1) h.node) := X2_1.out.keep hy; have X3_2 : Hid (HasWs y3 (.slice m2 h.dnF.length c2) h.dnF) := X2_2.out.keep hy; have X3_3 : Hid (HasLs y3 (.slice m3 h.dn.length c3) (h.dn.map (turnL h.up.length h.dn.length))) := hh; obtain ⟨a0, a1, a2, a3, a4⟩ := HQ.out y3 Y3.out; clear hy hh)
    | (go_at_call 33; refine (H2.out _ Y1.out).mono ?_; rintro e y2 ⟨m2, c2, rfl, hh, hg, hy⟩; have G2 : Hid (∀ a, m2 = some a → W0.heap.size ≤ a.block) := hg; clear hg; have Y2 : Hid (Below W0.heap.size W0 y2) := btrH' Y1.out hy; have X2_1 : Hid (HasWs y2 (.slice m1 h.node.length c1) h.node) := X1_1.out.keep hy; have X2_2 : Hid (HasWs y2 (.slice m2 h.dnF.length c2) h.dnF) := hh; obtain ⟨a0, a1, a2, a3, a4⟩ := HQ.out y2 Y2.out; clear hy hh)
    | (go_at_call 33; refine (H1.out _ Y0.out.drew).mono ?_; rintro e y1 ⟨m1, c1, rfl, hh, hg, hy⟩; have G1 : Hid (∀ a, m1 = some a → W0.heap.size ≤ a.block) := hg; clear hg; have Y1 : Hid (Below W0.heap.size W0 y1) := btrH' Y0.out.drew hy; have X1_1 : Hid (HasWs y1 (.slice m1 h.node.length c1) h.node) := hh; obtain ⟨a0, a1, a2, a3, a4⟩ := HQ.out y1 Y1.out; clear hy hh))
  go_wp2
  have hS := set_five (HB0.out _ Y5.out).2 (.slice m1 h.node.length c1) (.slice m2 h.dnF.length c2) (.slice m3 h.dn.length c3) (.slice m4 h.upF.length c4) (.slice m5 h.up.length c5)
  obtain ⟨hf1, hf2⟩ := five_far y5 (z + 1) (.slice m1 h.node.length c1) (.slice m2 h.dnF.length c2) (.slice m3 h.dn.length c3) (.slice m4 h.upF.length c4) (.slice m5 h.up.length c5)
  have hlt : z + 1 < W0.heap.size := some_lt (HB0.out _ Y0.out).2
  have hbb : Below w.heap.size w (((((y5.setCell ⟨z + 1, 0, none⟩ (.slice m1 h.node.length c1)).setCell ⟨z + 1, 1, none⟩ (.slice m2 h.dnF.length c2)).setCell ⟨z + 1, 2, none⟩ (.slice m3 h.dn.length c3)).setCell ⟨z + 1, 3, none⟩ (.slice m4 h.upF.length c4)).setCell ⟨z + 1, 4, none⟩ (.slice m5 h.up.length c5)) := ((((((HB0.out _ Y5.out).1.setCell (by rw [HZZ.out]; exact Nat.le_succ _) _).setCell (by rw [HZZ.out]; exact Nat.le_succ _) _).setCell (by rw [HZZ.out]; exact Nat.le_succ _) _).setCell (by rw [HZZ.out]; exact Nat.le_succ _) _).setCell (by rw [HZZ.out]; exact Nat.le_succ _) _)
  refine bodyPost_ret (rturn_res hS rfl) rfl ⟨⟨m1, m2, m3, m4, m5, c1, c2, c3, c4, c5⟩, ?_, ?_, ⟨fun a ea => Nat.le_trans HLE.out (G1.out a ea), fun a ea => Nat.le_trans HLE.out (G2.out a ea), fun a ea => Nat.le_trans HLE.out (G3.out a ea), fun a ea => Nat.le_trans HLE.out (G4.out a ea), fun a ea => Nat.le_trans HLE.out (G5.out a ea)⟩, hbb⟩
  · simp only [turnH, List.length_map]
  generalize (((((y5.setCell ⟨z + 1, 0, none⟩ (.slice m1 h.node.length c1)).setCell ⟨z + 1, 1, none⟩ (.slice m2 h.dnF.length c2)).setCell ⟨z + 1, 2, none⟩ (.slice m3 h.dn.length c3)).setCell ⟨z + 1, 3, none⟩ (.slice m4 h.upF.length c4)).setCell ⟨z + 1, 4, none⟩ (.slice m5 h.up.length c5)) = WE at hf1 hf2
  have hs : y5.heap.size ≤ WE.heap.size := Nat.le_of_eq hf2.symm
  refine ⟨?_, ?_, ?_, ?_, ?_⟩
  · exact ws_far X5_1.out hs (fun a ea => hf1 _ (by have := G1.out a ea; omega))
  · exact ws_far X5_2.out hs (fun a ea => hf1 _ (by have := G2.out a ea; omega))
  · show HasLs WE (.slice m3 (turnH h).up.length c3) (turnH h).up
    rw [show (turnH h).up.length = h.dn.length by unfold turnH; simp]
    exact ls_far X5_3.out hs (fun a ea => hf1 _ (by have := G3.out a ea; omega))
  · exact ws_far X5_4.out hs (fun a ea => hf1 _ (by have := G4.out a ea; omega))
  · show HasLs WE (.slice m5 (turnH h).dn.length c5) (turnH h).dn
    rw [show (turnH h).dn.length = h.up.length by unfold turnH; simp]
    exact ls_far X5_5.out hs (fun a ea => hf1 _ (by have := G5.out a ea; omega))
theorem rTurn_calls (v : HV) (h : Hr) (w : World) (hH : HasH w v h) (hr : Reach h) (hc : chk h = (0, [])) :
    Calls Tryz.prog 101 #[hvl v h] w fun e w' => ∃ u, e = .returned (hvl u (turnH h)) ∧ HasH w' u (turnH h) ∧ Below w.heap.size w w' :=
  (rTurn_high v h w hH hr hc).mono (by rintro e w' ⟨u, rfl, a, _, b⟩; exact ⟨u, rfl, a, b⟩)
end Go.Proofs.YtodilocmfdeehaaGreatDoor.Hi

namespace Go.Proofs.YtodilocmfdeehaaGreatDoor.Hi
open Go.RowKit Go.Extern Go.Shelf

attribute [local go_sem] Oper.semAt_some

/-- the cells of links as arcs. -/
def evs (l : List Sd) : List Value := l.flatMap fun s => [.int .i64 (s.tail : Int), .int .i64 (s.head : Int), .int .i64 (s.rk : Int)]
theorem evs_append (l r : List Sd) : evs (l ++ r) = evs l ++ evs r := by simp [evs]
theorem evs_one (l : List Sd) : ∀ u ∈ evs l, u.oneCell' = true := by
  intro u hu
  simp [evs] at hu
  obtain ⟨a, _, rfl | rfl | rfl⟩ := hu <;> rfl
theorem evs_get : ∀ (l : List Sd) (i : Nat) (a : Sd), l[i]? = some a → (evs l)[i * 3]? = some (.int .i64 (a.tail : Int)) ∧ (evs l)[i * 3 + 1]? = some (.int .i64 (a.head : Int)) ∧ (evs l)[i * 3 + 2]? = some (.int .i64 (a.rk : Int))
  | [], i, a, h => by simp at h
  | s :: l, 0, a, h => by
    simp at h
    subst h
    simp [evs]
  | s :: l, i + 1, a, h => by
    obtain ⟨h0, h1, h2⟩ := evs_get l i a (by simpa using h)
    have e : evs (s :: l) = [.int .i64 (s.tail : Int), .int .i64 (s.head : Int), .int .i64 (s.rk : Int)] ++ evs l := rfl
    have key : ∀ c, (evs (s :: l))[(i + 1) * 3 + c]? = (evs l)[i * 3 + c]? := fun c => by
      rw [e, List.getElem?_append_right (by simp; omega)]
      congr 1
      simp
      omega
    exact ⟨(key 0).trans h0, (key 1).trans h1, (key 2).trans h2⟩
theorem infoEnd : (Tryz.prog.info? 59).map (fun i => (i.zero, i.size, i.bytes)) = some (some (.agg #[.int .i64 0, .int .i64 0, .int .i64 0]), 3, 24) := by kernel_rfl
/-- all links as arcs, in memory. -/
def HasEs (w : World) (lv : Value) (h : Hr) : Prop := ∃ B, ∃ (mo : Option Addr) (mc : Nat), lv = .slice mo (stds h).length mc ∧ w.ownsRow B 59 3 lv (stds h).length (evs (stds h))
theorem HasEs.keep {w w' : World} {lv : Value} {h : Hr} (g : HasEs w lv h) (hb : Below w.heap.size w w') : HasEs w' lv h := by
  obtain ⟨B, mo, mc, rfl, ho⟩ := g
  exact ⟨B, mo, mc, rfl, own_keep ho fun k _ _ hh => (hb.block k (some_lt hh)).trans hh⟩
theorem HasEs.far {w w' : World} {lv : Value} {h : Hr} (g : HasEs w lv h) (hb : ∀ (k : Nat) (cur : Array Value), w.heap[k]? = some (.cells cur 59) → w'.heap[k]? = some (.cells cur 59)) : HasEs w' lv h := by
  obtain ⟨B, mo, mc, rfl, ho⟩ := g
  exact ⟨B, mo, mc, rfl, own_keep ho fun k c _ hh => hb k c hh⟩
theorem HasEs.at {w : World} {mo : Option Addr} {mc : Nat} {h : Hr} (g : HasEs w (.slice mo (stds h).length mc) h) {i : Nat} (hi : i < (stds h).length) : ∃ b, mo = some ⟨b, 0, none⟩ ∧ (w.cell? ⟨b, i * 3, none⟩ = some (.int .i64 ((sd (stds h) i).tail : Int)) ∧ w.cell? ⟨b, i * 3 + 1, none⟩ = some (.int .i64 ((sd (stds h) i).head : Int)) ∧ w.cell? ⟨b, i * 3 + 2, none⟩ = some (.int .i64 ((sd (stds h) i).rk : Int))) ∧ b < w.heap.size := by
  obtain ⟨B, mo', mc', e, ho⟩ := g
  injection e with e1 _ e3
  subst e1 e3
  rcases ho.2 with ⟨e1, h0⟩ | ⟨b, cap, cur, e1, _, hh, _⟩
  · omega
  · injection e1 with e1 _ _
    subst e1
    obtain ⟨g0, g1, g2⟩ := evs_get _ _ _ (sd_get hi)
    exact ⟨b, rfl, ⟨(ho.cellAt (i * 3) (by omega)).trans g0, (ho.cellAt (i * 3 + 1) (by omega)).trans g1, (ho.cellAt (i * 3 + 2) (by omega)).trans g2⟩, some_lt hh⟩

set_option maxRecDepth 100000 in
set_option maxHeartbeats 4000000 in
theorem arcsR_calls (v : HV) (h : Hr) (w : World) (hH : HasH w v h) (hu : FOk h.upF h.up.length) (hd : FOk h.dnF h.dn.length) (hl1 : h.upF.length ≤ 65537) (hl2 : h.dnF.length ≤ 65537) (hL : h.up.length + h.dn.length ≤ 1048576) :
    Calls Tryz.prog 24 #[hvl v h] w fun e w' => ∃ mo mc, e = .returned (.slice mo (stds h).length mc) ∧ HasEs w' (.slice mo (stds h).length mc) h ∧ Below w.heap.size w w' := by
  have hlen := stds_len hu hd
  obtain ⟨z, hz⟩ : ∃ z, w.heap.size = z := ⟨_, rfl⟩
  obtain ⟨W0, hW0⟩ : ∃ W0, w.alloc (.cells (cellsH v h) 25) = W0 := ⟨_, rfl⟩
  have hB0 : Below w.heap.size w W0 := by rw [← hW0]; exact (Below.refl _ w).alloc (Nat.le_refl _) _
  have h0 : W0.heap[z]? = some (.cells (cellsH v h) 25) := by
    rw [← hW0, ← hz]; exact heap_newW _ _
  have HQ : Hid (∀ wx, Below W0.heap.size W0 wx → (wx.cell? ⟨z, 0, none⟩ = some (.slice v.no h.node.length v.nc) ∧ wx.cell? ⟨z, 1, none⟩ = some (.slice v.uo h.upF.length v.uc) ∧ wx.cell? ⟨z, 2, none⟩ = some (.slice v.ul h.up.length v.ulc) ∧ wx.cell? ⟨z, 3, none⟩ = some (.slice v.wo h.dnF.length v.wc) ∧ wx.cell? ⟨z, 4, none⟩ = some (.slice v.dl h.dn.length v.dlc)) ∧ HasH wx v h ∧ Below w.heap.size w wx) := fun wx hx => by
    have g := hB0.trans (hx.mono hB0.size)
    exact ⟨five_cells ((hx.block _ (some_lt h0)).trans h0), hH.keep g, g⟩
  have HRK : Hid (Calls Tryz.prog 50 #[hvl v h] W0 fun e w' => ∃ mo mc, e = .returned (.slice mo (stds h).length mc) ∧ w'.ownsRow W0.heap.size 3 1 (.slice mo (stds h).length mc) (stds h).length (ivs ((stds h).map fun s => (s.rk : Int))) ∧ Below W0.heap.size W0 w') := ranksR_calls v h W0 (HQ.out W0 (Below.refl _ _)).2.1 hu hd hl1 hl2 hL
  have HEO : Hid (∀ (wx : World) (mo : Option Addr) (mc i : Nat), HasH wx v h → HasRk wx (.slice mo (stds h).length mc) h → i < (stds h).length → Calls Tryz.prog 52 #[hvl v h, .slice mo (stds h).length mc, .int .i64 (i : Int)] wx fun e w' => e = .returned (.agg #[.int .i64 ((sd (stds h) i).tail : Int), .int .i64 ((sd (stds h) i).head : Int), .int .i64 ((sd (stds h) i).rk : Int)]) ∧ Below wx.heap.size wx w') := fun wx mo mc i hx hr hi => endOf_calls v h mo mc i wx hx hr hu hd hL hi
  have HW0 : Hid (w.alloc (.cells (cellsH v h) 25) = W0) := hW0
  have HLEN : Hid ((stds h).length ≤ 1048576) := by show _ ≤ _; omega
  have HZL : Hid (w.heap.size ≤ W0.heap.size) := hB0.size
  obtain ⟨⟨c0, c1, c2, c3, c4⟩, _⟩ := HQ.out W0 (Below.refl _ _)
  obtain ⟨i0, hi9, hzz⟩ := Option.map_eq_some_iff.1 infoEnd
  simp only [Prod.mk.injEq] at hzz
  have HI : Hid (Tryz.prog.info? 59 = some i0 ∧ i0.zero = some (.agg #[.int .i64 0, .int .i64 0, .int .i64 0]) ∧ i0.size = 3 ∧ i0.bytes = 24) := ⟨hi9, hzz⟩
  clear hW0 h0 hB0 hH hi9 hzz hlen hu hd
  unfold cellsH at HW0
  unfold hvl at HRK HEO ⊢
  go_enter Tryz.func24, Tryz.ntmps24
  go_upto_region 1 with fail
  rw [HW0.out]
  clear HW0 hz
  go_wp2_with fail
  refine HRK.out.mono ?_
  rintro e w1 ⟨mo, mc, rfl, ho, hb⟩
  have HQ1 : Hid (∀ wx, Below w1.heap.size w1 wx → (wx.cell? ⟨z, 0, none⟩ = some (.slice v.no h.node.length v.nc) ∧ wx.cell? ⟨z, 1, none⟩ = some (.slice v.uo h.upF.length v.uc) ∧ wx.cell? ⟨z, 2, none⟩ = some (.slice v.ul h.up.length v.ulc) ∧ wx.cell? ⟨z, 3, none⟩ = some (.slice v.wo h.dnF.length v.wc) ∧ wx.cell? ⟨z, 4, none⟩ = some (.slice v.dl h.dn.length v.dlc)) ∧ HasH wx v h ∧ HasRk wx (.slice mo (stds h).length mc) h ∧ Below w.heap.size w wx) := fun wx hx => by
    obtain ⟨g1, g2, g3⟩ := HQ.out wx (btrH' hb hx)
    have hr : HasRk w1 (.slice mo (stds h).length mc) h := ⟨_, mo, mc, rfl, ho⟩
    exact ⟨g1, g2, hr.keep hx, g3⟩
  have HB1 : Hid (Below w1.heap.size w1 w1) := Below.refl _ _
  clear ho hb c0 c1 c2 c3 c4 HRK
  go_wp2_with fail
  go_loopw [4, 10] (fun mv nv wr => ∃ (k : Nat) (so : Option Addr) (sc : Nat), k ≤ (stds h).length ∧ nv = .int .i64 k ∧ mv = .slice so k sc ∧ Hid (wr.ownsRow w1.heap.size 59 3 (.slice so k sc) k (evs ((stds h).take k))) ∧ Hid (Below w1.heap.size w1 wr)) (fun _ nv _ => (stds h).length - (intOf nv).toNat)
  case atStart => exact ⟨0, none, 0, Nat.zero_le _, rfl, rfl, World.ownsRow_nil _ _ _ _, HB1.out⟩
  case round =>
    obtain ⟨k, so, sc, hk, rfl, rfl, HO, HB⟩ := hrel
    by_cases hlt : k < (stds h).length
    · have HT1 : Hid ((stds h).take (k + 1) = (stds h).take k ++ [sd (stds h) k]) := by show _ = _; rw [List.take_add_one, sd_get hlt]; rfl
      obtain ⟨⟨c0, c1, c2, c3, c4⟩, g2, g3, _⟩ := HQ1.out wr HB.out
      have HC : Hid (type_of% (HEO.out wr mo mc k g2 g3 hlt)) := HEO.out wr mo mc k g2 g3 hlt
      have i1 : (k : Int) < ((stds h).length : Int) := by omega
      have i2 : (0 : Int) ≤ (k : Int) := by omega
      have i3 : k < 1048576 := by have := HLEN.out; omega
      clear g2 g3
      go_wp2_with fail
      refine HC.out.mono ?_
      rintro e w4 ⟨rfl, hb4⟩
      have HK : Hid (w4.ownsRow w1.heap.size 59 3 (.slice so k sc) k (evs ((stds h).take k)) ∧ Below w1.heap.size w1 w4) := ⟨own_upO HO.out hb4, btrH' HB.out hb4⟩
      clear HC hb4 c0 c1 c2 c3 c4 HO HB
      go_wp2_with (at_builtin; refine wpList_append_own _ rfl _ _ 56 rfl w1.heap.size 59 i0 (.agg #[.int .i64 0, .int .i64 0, .int .i64 0]) 3 24 Tryz.underlying56 HI.out.1 HI.out.2.1 HI.out.2.2.1 HI.out.2.2.2 rfl (by decide) _ k (evs ((stds h).take k)) rfl (HK.out.1.alloc _) ⟨w4.heap.size, 0, none⟩ 1 1 (evs [sd (stds h) k]) rfl rfl (new_cells w4 (evs [sd (stds h) k]) 59) (evs_one _) (by unfold maxLen; omega) (by omega) (by have := HK.out.2.size; simp; omega) ?_; intro v5 w5 hown5 hgr5 _; have H5 : Hid (w5.ownsRow w1.heap.size 59 3 v5 (k + 1) (evs ((stds h).take (k + 1))) ∧ Below w1.heap.size w1 w5) := ⟨by rw [HT1.out, evs_append]; exact hown5, below_grown (HK.out.2.alloc HK.out.2.size _) (HK.out.1.alloc _) hgr5 (by have := HK.out.2.size; simp; omega)⟩; clear hown5 hgr5; obtain ⟨po, pc, hv5⟩ := own_slice H5.out.1; subst hv5)
      exact ⟨⟨k + 1, po, pc, by omega, by rw [show (k : Int) + 1 = ((k + 1 : Nat) : Int) by omega], rfl, H5.out.1, H5.out.2⟩, by simp only [intOf]; omega⟩
    · obtain rfl : k = (stds h).length := by omega
      have HK2 : Hid (HasEs wr (.slice so (stds h).length sc) h ∧ Below w.heap.size w wr) := ⟨⟨_, so, sc, rfl, by have g := HO.out; rw [List.take_length] at g; exact g⟩, (HQ1.out wr HB.out).2.2.2⟩
      clear HO HB
      go_wp2_with fail
      go_ret
      exact ⟨so, sc, rfl, HK2.out.1, HK2.out.2⟩
end Go.Proofs.YtodilocmfdeehaaGreatDoor.Hi
