/- viaductref10.number: the number of a child in what is turned about. viaductref10.turned and Turn: a hierarchy turned about, by the reference. (genho.py) viaductref20.Dists at a hierarchy in form. (gencd.py) viaductref21.rank, Nodes and Meet. (genqm.py) viaductref21.DocMeet at every hierarchy and any two numbers; query.Distance and Meet told the same way. (genqb.py) the law QueryMemory. (genqy.py) A graph among the arguments, opened: the arcs that it reads as lie in memory. A hierarchy among the arguments, opened: its five lists lie in memory. Lists among the arguments, opened. QueryMemory holds: for every hierarchy and every list the law answers true and its arguments read as they did, the listed variable tied to the program's text. No condition beside the row's own. -/
import Derived.Test.YthcdkokgfnidiaaGreatDoorHrU
import Derived.Test.YthcdkokgfnidiaaGreatDoorHtA
import Derived.Test.YthcdkokgfnidiaaGreatDoorHdM
import Derived.Test.YthcdkokgfnidiaaGreatDoorHsB
import Derived.Test.YthcdkokgfnidiaaGreatDoorCbY
import Derived.Test.YthcdkokgfnidiaaGreatDoorHdH
import Derived.Test.YthcdkokgfnidiaaGreatDoorSeen
import Derived.Test.YthcdkokgfnidiaaGreatDoorHrZ
import Derived.Test.YthcdkokgfnidiaaGreatDoorInts
import Derived.Test.YthcdkokgfnidiaaGreatDoorFrame
import Derived.Deep.Slices
import Derived.Deep.Strs
import Derived.Test.YthcdkokgfnidiaaGreatDoorHrG
import Derived.Lib.SmallJoins
import Derived.SizedLaws
import Derived.Test.YthcdkokgfnidiaaGreatDoorTie
import Derived.Test.YthcdkokgfnidiaaGreatDoorCards
import Derived.SevenTiedAt
namespace Go.Proofs.YthcdkokgfnidiaaGreatDoor.Hi
open Go.RowKit Go.Extern Go.Shelf

attribute [local go_sem] Oper.semAt_some

def numT (p q i : Nat) : Nat := if i = 4294967295 then i else if i < p then q + i else i - p
set_option maxRecDepth 100000 in
set_option maxHeartbeats 4000000 in
theorem number_calls (v : HV) (h : Hr) (i : Nat) (w : World) (hi : i < 4294967296) (hL : h.up.length + h.dn.length ≤ 1048576) :
    Calls Tryz.prog 54 #[hvl v h, .int .u32 (i : Int)] w fun e w' => e = .returned (.int .u32 (numT h.up.length h.dn.length i : Int)) ∧ Below w.heap.size w w' := by
  obtain ⟨z, hz⟩ : ∃ z, w.heap.size = z := ⟨_, rfl⟩
  obtain ⟨W0, hW0⟩ : ∃ W0, w.alloc (.cells (cellsH v h) 25) = W0 := ⟨_, rfl⟩
  have h0 : W0.heap[z]? = some (.cells (cellsH v h) 25) := by rw [← hW0, ← hz]; exact heap_newW _ _
  have HW0 : Hid (w.alloc (.cells (cellsH v h) 25) = W0) := hW0
  have HB0 : Hid (Below w.heap.size w W0) := by show Below _ _ _; rw [← hW0]; exact (Below.refl _ _).alloc (Nat.le_refl _) _
  obtain ⟨c0, c1, c2, c3, c4⟩ := five_cells h0
  obtain ⟨p, hp⟩ : ∃ p, h.up.length = p := ⟨_, rfl⟩
  obtain ⟨q, hq⟩ : ∃ q, h.dn.length = q := ⟨_, rfl⟩
  obtain ⟨r, hr⟩ : ∃ r, numT p q i = r := ⟨_, rfl⟩
  have HR : Hid (numT p q i = r) := hr
  clear hW0 h0
  unfold cellsH at HW0
  unfold hvl
  rw [hp, hq] at hL ⊢
  rw [hp, hq] at HW0
  rw [hp] at c2
  rw [hq] at c4
  rw [hr]
  clear hp hq hr
  by_cases g1 : i = 4294967295
  · subst g1
    have HE : Hid (r = 4294967295) := by show _ = _; rw [← HR.out]; rfl
    go_enter Tryz.func54, Tryz.ntmps54
    go_wp2_with fail
    rw [HW0.out]
    go_wp2
    go_ret
    exact ⟨by rw [HE.out]; rfl, HB0.out⟩
  have a1 : ((i : Int) == 4294967295) = false := by simp; omega
  have a2 : (i == 4294967295) = false := by simpa using g1
  have a3 : IntKind.i64.wrap (i : Int) = (i : Int) := by rw [IntKind.wrap_i64]; omega
  by_cases g2 : i < p
  · have b1 : decide ((i : Int) < (p : Int)) = true := by simp; omega
    have b2 : decide (i < p) = true := by simpa using g2
    have b3 : IntKind.u32.wrap (q : Int) = (q : Int) := by rw [IntKind.wrap_u32]; omega
    have b4 : IntKind.u32.wrap ((q : Int) + (i : Int)) = (q : Int) + (i : Int) := by rw [IntKind.wrap_u32]; omega
    have HE : Hid (r = q + i) := by show _ = _; rw [← HR.out]; unfold numT; rw [if_neg g1, if_pos g2]
    clear g1 g2
    go_enter Tryz.func54, Tryz.ntmps54
    go_upto_region 1 with fail
    rw [HW0.out]
    go_wp2
    go_ret
    exact ⟨by rw [HE.out]; simp, HB0.out⟩
  · have b1 : decide ((i : Int) < (p : Int)) = false := by simp; omega
    have b2 : decide (i < p) = false := by simpa using g2
    have b3 : IntKind.u32.wrap (p : Int) = (p : Int) := by rw [IntKind.wrap_u32]; omega
    have b4 : IntKind.u32.wrap ((i : Int) - (p : Int)) = (r : Int) := by rw [← HR.out]; unfold numT; rw [if_neg g1, if_neg g2, IntKind.wrap_u32] <;> omega
    clear g1 g2
    go_enter Tryz.func54, Tryz.ntmps54
    go_upto_region 1 with fail
    rw [HW0.out]
    go_wp2
    go_ret
    exact ⟨by simp, HB0.out⟩
end Go.Proofs.YthcdkokgfnidiaaGreatDoor.Hi

namespace Go.Proofs.YthcdkokgfnidiaaGreatDoor.Hi
open Go.RowKit Go.Extern Go.Shelf

attribute [local go_sem] Oper.semAt_some

/-- a link with its children told anew, as the reference tells them. -/
def rTurnL (p q : Nat) (l : Lk) : Lk := ⟨l.hd, l.wt, numT p q l.rt, numT p q l.lf⟩
theorem build_lk (a b c d : Int) (wx : World) : (Instr.buildSlice 23 1 #[(0, .agg #[.int .u32 a, .int .u64 b, .int .u32 c, .int .u32 d])]).run Tryz.prog wx = .ok (.slice (some ⟨wx.heap.size, 0, none⟩) 1 1) (wx.alloc (.cells #[.int .u32 a, .int .u64 b, .int .u32 c, .int .u32 d] 71)) := by kernel_rfl
theorem four_at {w : World} {b : Nat} {T : TypeId} {a0 a1 a2 a3 : Value} (h : w.heap[b]? = some (.cells #[a0, a1, a2, a3] T)) : w.cell? ⟨b, 0, none⟩ = some a0 ∧ w.cell? ⟨b, 1, none⟩ = some a1 ∧ w.cell? ⟨b, 2, none⟩ = some a2 ∧ w.cell? ⟨b, 3, none⟩ = some a3 := by simp [World.cell?, h]
theorem own_upO {w w' : World} {B n z : Nat} {T : TypeId} {v : Value} {xs : List Value} (h : w.ownsRow B T z v n xs) (hb : Below w.heap.size w w') : w'.ownsRow B T z v n xs := by
  rcases h.2 with ⟨e, h0⟩ | ⟨g, cap, cur, e, hg, hh, r⟩
  · exact ⟨h.1, .inl ⟨e, h0⟩⟩
  · exact ⟨h.1, .inr ⟨g, cap, cur, e, hg, (hb.block g (some_lt hh)).trans hh, r⟩⟩

theorem own_lowO {w : World} {B B' n z : Nat} {T : TypeId} {v : Value} {xs : List Value} (h : w.ownsRow B T z v n xs) (hb : B' ≤ B) : w.ownsRow B' T z v n xs := by
  rcases h.2 with ⟨e, h0⟩ | ⟨g, cap, cur, e, hg, r⟩
  · exact ⟨h.1, .inl ⟨e, h0⟩⟩
  · exact ⟨h.1, .inr ⟨g, cap, cur, e, Nat.le_trans hb hg, r⟩⟩
theorem cells_four {w : World} {g : Nat} {a0 a1 a2 a3 : Value} (h0 : w.cell? ⟨g, 0, none⟩ = some a0) (h1 : w.cell? ⟨g, 1, none⟩ = some a1) (h2 : w.cell? ⟨g, 2, none⟩ = some a2) (h3 : w.cell? ⟨g, 3, none⟩ = some a3) : ∀ j u, [a0, a1, a2, a3][j]? = some u → w.cell? ((⟨g, 0, none⟩ : Addr).add j) = some u := fun j u hj => by
  have e : (⟨g, 0, none⟩ : Addr).add j = ⟨g, j, none⟩ := by
    by_cases h0 : j = 0
    · subst h0; rfl
    · simp [Addr.add, h0]
  rw [e]
  rcases j with _ | _ | _ | _ | j
  · simp at hj; rw [← hj]; exact h0
  · simp at hj; rw [← hj]; exact h1
  · simp at hj; rw [← hj]; exact h2
  · simp at hj; rw [← hj]; exact h3
  · simp at hj

set_option maxRecDepth 100000 in
set_option maxHeartbeats 4000000 in
theorem turned_aux (no uo ul wo dl : Option Addr) (nc uc ulc wc dlc n fu p fd q : Nat) (lo : Option Addr) (lc : Nat) (l : List Lk) (w : World) (hnum : ∀ (i : Nat) (wx : World), i < 4294967296 → Calls Tryz.prog 54 #[(.agg #[.slice no n nc, .slice uo fu uc, .slice ul p ulc, .slice wo fd wc, .slice dl q dlc]), .int .u32 (i : Int)] wx fun e w' => e = .returned (.int .u32 (numT p q i : Int)) ∧ Below wx.heap.size wx w') (hl : HasLs w (.slice lo l.length lc) l) (hm : l.length * 24 ≤ 140737488351232) :
    Calls Tryz.prog 48 #[(.agg #[.slice no n nc, .slice uo fu uc, .slice ul p ulc, .slice wo fd wc, .slice dl q dlc]), .slice lo l.length lc] w fun e w' => ∃ mo mc, e = .returned (.slice mo l.length mc) ∧ w'.ownsRow w.heap.size 71 4 (.slice mo l.length mc) l.length (lvs (l.map (rTurnL p q))) ∧ Below w.heap.size w w' := by
  obtain ⟨z, hz⟩ : ∃ z, w.heap.size = z := ⟨_, rfl⟩
  obtain ⟨W0, hW0⟩ : ∃ W0, w.alloc (.cells #[.slice no n nc, .slice uo fu uc, .slice ul p ulc, .slice wo fd wc, .slice dl q dlc] 25) = W0 := ⟨_, rfl⟩
  have HW0 : Hid (w.alloc (.cells #[.slice no n nc, .slice uo fu uc, .slice ul p ulc, .slice wo fd wc, .slice dl q dlc] 25) = W0) := hW0
  have HQ : Hid (∀ wx, Below W0.heap.size W0 wx → wx.heap[z]? = some (.cells #[.slice no n nc, .slice uo fu uc, .slice ul p ulc, .slice wo fd wc, .slice dl q dlc] 25) ∧ HasLs wx (.slice lo l.length lc) l ∧ Below w.heap.size w wx) := fun wx hx => by
    have h1 : W0.heap[z]? = some (.cells #[.slice no n nc, .slice uo fu uc, .slice ul p ulc, .slice wo fd wc, .slice dl q dlc] 25) := by rw [← hW0, ← hz]; exact heap_newW _ _
    have h2 : Below w.heap.size w W0 := by rw [← hW0]; exact (Below.refl _ _).alloc (Nat.le_refl _) _
    have h3 := btrH' h2 hx
    exact ⟨(hx.block _ (some_lt h1)).trans h1, hl.keep h3, h3⟩
  have HZ0 : Hid (z < W0.heap.size ∧ w.heap.size ≤ W0.heap.size) := by
    have h1 : W0.heap[z]? = some (.cells #[.slice no n nc, .slice uo fu uc, .slice ul p ulc, .slice wo fd wc, .slice dl q dlc] 25) := by rw [← hW0, ← hz]; exact heap_newW _ _
    exact ⟨some_lt h1, (HQ.out W0 (Below.refl _ _)).2.2.size⟩
  have HNUM : Hid (type_of% hnum) := hnum
  obtain ⟨i0, hi9, hzz⟩ := Option.map_eq_some_iff.1 infoLs
  simp only [Prod.mk.injEq] at hzz
  have HI : Hid (Tryz.prog.info? 71 = some i0 ∧ i0.zero = some (.agg #[.int .u32 0, .int .u64 0, .int .u32 0, .int .u32 0]) ∧ i0.size = 4 ∧ i0.bytes = 24) := ⟨hi9, hzz⟩
  have HW1 : Hid (Below W0.heap.size W0 W0) := Below.refl _ _
  clear hl hi9 hzz hnum hW0
  go_enter Tryz.func48, Tryz.ntmps48
  go_upto_region 1 with fail
  rw [HW0.out]
  clear HW0 hz
  go_wp2_with fail
  go_loopw [5, 10] (fun mv nv wr => ∃ (k : Nat) (so : Option Addr) (sc : Nat), k ≤ l.length ∧ nv = .int .i64 k ∧ mv = .slice so k sc ∧ Hid (wr.ownsRow W0.heap.size 71 4 (.slice so k sc) k (lvs ((l.map (rTurnL p q)).take k))) ∧ Hid (Below W0.heap.size W0 wr)) (fun _ nv _ => l.length - (intOf nv).toNat)
  case atStart => exact ⟨0, none, 0, Nat.zero_le _, rfl, rfl, World.ownsRow_nil _ _ _ _, HW1.out⟩
  case round =>
    obtain ⟨k, so, sc, hk, rfl, rfl, HO, HB⟩ := hrel
    by_cases hlt : k < l.length
    · obtain ⟨a, ha⟩ : ∃ a, l[k]? = some a := ⟨l[k], List.getElem?_eq_getElem hlt⟩
      obtain ⟨hok, b, off, hlo, hbl, c0, c1, c2, c3⟩ := ((HQ.out wr HB.out).2.1).at ha
      obtain ⟨lh, lw, ll, lr⟩ := a
      simp only at c0 c1 c2 c3
      subst hlo
      obtain ⟨x, hx⟩ : ∃ x, numT p q lr = x := ⟨_, rfl⟩
      obtain ⟨y, hy⟩ : ∃ y, numT p q ll = y := ⟨_, rfl⟩
      have HT1 : Hid ((l.map (rTurnL p q)).take (k + 1) = (l.map (rTurnL p q)).take k ++ [⟨lh, lw, x, y⟩]) := by
        show _ = _
        rw [List.take_add_one, List.getElem?_map, ha]
        show _ = _ ++ [_]
        rw [← hx, ← hy]
        rfl
      have HN1 : Hid (∀ wx, Calls Tryz.prog 54 #[(.agg #[.slice no n nc, .slice uo fu uc, .slice ul p ulc, .slice wo fd wc, .slice dl q dlc]), .int .u32 (lr : Int)] wx fun e w' => e = .returned (.int .u32 (x : Int)) ∧ Below wx.heap.size wx w') := fun wx => by rw [← hx]; exact HNUM.out lr wx hok.2.2.2
      have HN2 : Hid (∀ wx, Calls Tryz.prog 54 #[(.agg #[.slice no n nc, .slice uo fu uc, .slice ul p ulc, .slice wo fd wc, .slice dl q dlc]), .int .u32 (ll : Int)] wx fun e w' => e = .returned (.int .u32 (y : Int)) ∧ Below wx.heap.size wx w') := fun wx => by rw [← hy]; exact HNUM.out ll wx hok.2.2.1
      have i1 : (k : Int) < (l.length : Int) := by omega
      have i2 : (0 : Int) ≤ (k : Int) := by omega
      obtain ⟨bx, hbx⟩ : ∃ s, wr.heap.size = s := ⟨_, rfl⟩
      obtain ⟨W1, hW1⟩ : ∃ W1, wr.alloc (.cells #[.int .u32 (lh : Int), .int .u64 (lw : Int), .int .u32 (ll : Int), .int .u32 (lr : Int)] 71) = W1 := ⟨_, rfl⟩
      have HW1 : Hid (wr.alloc (.cells #[.int .u32 (lh : Int), .int .u64 (lw : Int), .int .u32 (ll : Int), .int .u32 (lr : Int)] 71) = W1) := hW1
      have H1 : Hid (∀ wx, Below W1.heap.size W1 wx → (wx.heap[z]? = some (.cells #[.slice no n nc, .slice uo fu uc, .slice ul p ulc, .slice wo fd wc, .slice dl q dlc] 25) ∧ wx.heap[bx]? = some (.cells #[.int .u32 (lh : Int), .int .u64 (lw : Int), .int .u32 (ll : Int), .int .u32 (lr : Int)] 71)) ∧ wx.ownsRow W0.heap.size 71 4 (.slice so k sc) k (lvs ((l.map (rTurnL p q)).take k)) ∧ Below W0.heap.size W0 wx) := fun wx hx => by
        have g1 : W1.heap[bx]? = some (.cells #[.int .u32 (lh : Int), .int .u64 (lw : Int), .int .u32 (ll : Int), .int .u32 (lr : Int)] 71) := by rw [← hW1, ← hbx]; exact heap_newW _ _
        have g2 : Below wr.heap.size wr W1 := by rw [← hW1]; exact (Below.refl _ _).alloc (Nat.le_refl _) _
        have g3 := btrH' g2 hx
        have g4 := btrH' HB.out g3
        exact ⟨⟨(HQ.out wx g4).1, (hx.block _ (some_lt g1)).trans g1⟩, own_upO HO.out g3, g4⟩
      have HOB : Hid (∀ g, (Value.slice so k sc).ownBlock = some g → g ≠ z ∧ g ≠ bx) := fun g hg => by
        have := HO.out.lt g hg
        have := HZ0.out.1
        omega
      clear hW1 ha hok hbl hx hy
      go_upto_region 5 with fail
      rw [HW1.out]
      clear HW1 c0 c1 c2 c3 hbx
      have HSS : Hid (∀ wx : World, (wx.heap[z]? = some (.cells #[.slice no n nc, .slice uo fu uc, .slice ul p ulc, .slice wo fd wc, .slice dl q dlc] 25) ∧ wx.heap[bx]? = some (.cells #[.int .u32 (lh : Int), .int .u64 (lw : Int), .int .u32 (ll : Int), .int .u32 (lr : Int)] 71)) → (fun w' => w'.cell? ⟨z, 0, none⟩ = some (.slice no n nc) ∧ w'.cell? ⟨z, 1, none⟩ = some (.slice uo fu uc) ∧ w'.cell? ⟨z, 2, none⟩ = some (.slice ul p ulc) ∧ w'.cell? ⟨z, 3, none⟩ = some (.slice wo fd wc) ∧ w'.cell? ⟨z, 4, none⟩ = some (.slice dl q dlc) ∧ w'.cell? ⟨bx, 0, none⟩ = some (.int .u32 (lh : Int)) ∧ w'.cell? ⟨bx, 1, none⟩ = some (.int .u64 (lw : Int)) ∧ w'.cell? ⟨bx, 2, none⟩ = some (.int .u32 (ll : Int)) ∧ w'.cell? ⟨bx, 3, none⟩ = some (.int .u32 (lr : Int)) ∧ Hid (w'.heap[z]? = some (.cells #[.slice no n nc, .slice uo fu uc, .slice ul p ulc, .slice wo fd wc, .slice dl q dlc] 25) ∧ w'.heap[bx]? = some (.cells #[.int .u32 (lh : Int), .int .u64 (lw : Int), .int .u32 (ll : Int), .int .u32 (lr : Int)] 71))) wx) := fun wx hx => by
        obtain ⟨a0, a1, a2, a3, a4⟩ := five_cells hx.1
        obtain ⟨b0, b1, b2, b3⟩ := four_at hx.2
        exact ⟨a0, a1, a2, a3, a4, b0, b1, b2, b3, hx⟩
      have HKS : Hid (∀ wx w' : World, (fun w' => w'.cell? ⟨z, 0, none⟩ = some (.slice no n nc) ∧ w'.cell? ⟨z, 1, none⟩ = some (.slice uo fu uc) ∧ w'.cell? ⟨z, 2, none⟩ = some (.slice ul p ulc) ∧ w'.cell? ⟨z, 3, none⟩ = some (.slice wo fd wc) ∧ w'.cell? ⟨z, 4, none⟩ = some (.slice dl q dlc) ∧ w'.cell? ⟨bx, 0, none⟩ = some (.int .u32 (lh : Int)) ∧ w'.cell? ⟨bx, 1, none⟩ = some (.int .u64 (lw : Int)) ∧ w'.cell? ⟨bx, 2, none⟩ = some (.int .u32 (ll : Int)) ∧ w'.cell? ⟨bx, 3, none⟩ = some (.int .u32 (lr : Int)) ∧ Hid (w'.heap[z]? = some (.cells #[.slice no n nc, .slice uo fu uc, .slice ul p ulc, .slice wo fd wc, .slice dl q dlc] 25) ∧ w'.heap[bx]? = some (.cells #[.int .u32 (lh : Int), .int .u64 (lw : Int), .int .u32 (ll : Int), .int .u32 (lr : Int)] 71))) wx → Below wx.heap.size wx w' → (fun w' => w'.cell? ⟨z, 0, none⟩ = some (.slice no n nc) ∧ w'.cell? ⟨z, 1, none⟩ = some (.slice uo fu uc) ∧ w'.cell? ⟨z, 2, none⟩ = some (.slice ul p ulc) ∧ w'.cell? ⟨z, 3, none⟩ = some (.slice wo fd wc) ∧ w'.cell? ⟨z, 4, none⟩ = some (.slice dl q dlc) ∧ w'.cell? ⟨bx, 0, none⟩ = some (.int .u32 (lh : Int)) ∧ w'.cell? ⟨bx, 1, none⟩ = some (.int .u64 (lw : Int)) ∧ w'.cell? ⟨bx, 2, none⟩ = some (.int .u32 (ll : Int)) ∧ w'.cell? ⟨bx, 3, none⟩ = some (.int .u32 (lr : Int)) ∧ Hid (w'.heap[z]? = some (.cells #[.slice no n nc, .slice uo fu uc, .slice ul p ulc, .slice wo fd wc, .slice dl q dlc] 25) ∧ w'.heap[bx]? = some (.cells #[.int .u32 (lh : Int), .int .u64 (lw : Int), .int .u32 (ll : Int), .int .u32 (lr : Int)] 71))) w') := fun wx w' hS hb => HSS.out w' ⟨(hb.block _ (some_lt hS.2.2.2.2.2.2.2.2.2.out.1)).trans hS.2.2.2.2.2.2.2.2.2.out.1, (hb.block _ (some_lt hS.2.2.2.2.2.2.2.2.2.out.2)).trans hS.2.2.2.2.2.2.2.2.2.out.2⟩
      have HC1 : Hid (∀ wx : World, (fun w' => w'.cell? ⟨z, 0, none⟩ = some (.slice no n nc) ∧ w'.cell? ⟨z, 1, none⟩ = some (.slice uo fu uc) ∧ w'.cell? ⟨z, 2, none⟩ = some (.slice ul p ulc) ∧ w'.cell? ⟨z, 3, none⟩ = some (.slice wo fd wc) ∧ w'.cell? ⟨z, 4, none⟩ = some (.slice dl q dlc) ∧ w'.cell? ⟨bx, 0, none⟩ = some (.int .u32 (lh : Int)) ∧ w'.cell? ⟨bx, 1, none⟩ = some (.int .u64 (lw : Int)) ∧ w'.cell? ⟨bx, 2, none⟩ = some (.int .u32 (ll : Int)) ∧ w'.cell? ⟨bx, 3, none⟩ = some (.int .u32 (lr : Int)) ∧ Hid (w'.heap[z]? = some (.cells #[.slice no n nc, .slice uo fu uc, .slice ul p ulc, .slice wo fd wc, .slice dl q dlc] 25) ∧ w'.heap[bx]? = some (.cells #[.int .u32 (lh : Int), .int .u64 (lw : Int), .int .u32 (ll : Int), .int .u32 (lr : Int)] 71))) wx → Calls Tryz.prog 54 #[(.agg #[.slice no n nc, .slice uo fu uc, .slice ul p ulc, .slice wo fd wc, .slice dl q dlc]), .int .u32 (lr : Int)] wx fun e w' => e = .returned (.int .u32 (x : Int)) ∧ Grows wx w' ∧ (fun w' => w'.cell? ⟨z, 0, none⟩ = some (.slice no n nc) ∧ w'.cell? ⟨z, 1, none⟩ = some (.slice uo fu uc) ∧ w'.cell? ⟨z, 2, none⟩ = some (.slice ul p ulc) ∧ w'.cell? ⟨z, 3, none⟩ = some (.slice wo fd wc) ∧ w'.cell? ⟨z, 4, none⟩ = some (.slice dl q dlc) ∧ w'.cell? ⟨bx, 0, none⟩ = some (.int .u32 (lh : Int)) ∧ w'.cell? ⟨bx, 1, none⟩ = some (.int .u64 (lw : Int)) ∧ w'.cell? ⟨bx, 2, none⟩ = some (.int .u32 (ll : Int)) ∧ w'.cell? ⟨bx, 3, none⟩ = some (.int .u32 (lr : Int)) ∧ Hid (w'.heap[z]? = some (.cells #[.slice no n nc, .slice uo fu uc, .slice ul p ulc, .slice wo fd wc, .slice dl q dlc] 25) ∧ w'.heap[bx]? = some (.cells #[.int .u32 (lh : Int), .int .u64 (lw : Int), .int .u32 (ll : Int), .int .u32 (lr : Int)] 71))) w') := fun wx hS => (HN1.out wx).mono (by rintro e w' ⟨rfl, hb⟩; exact ⟨rfl, hb, HKS.out wx w' hS hb⟩)
      have HC2 : Hid (∀ wx : World, (fun w' => w'.cell? ⟨z, 0, none⟩ = some (.slice no n nc) ∧ w'.cell? ⟨z, 1, none⟩ = some (.slice uo fu uc) ∧ w'.cell? ⟨z, 2, none⟩ = some (.slice ul p ulc) ∧ w'.cell? ⟨z, 3, none⟩ = some (.slice wo fd wc) ∧ w'.cell? ⟨z, 4, none⟩ = some (.slice dl q dlc) ∧ w'.cell? ⟨bx, 0, none⟩ = some (.int .u32 (lh : Int)) ∧ w'.cell? ⟨bx, 1, none⟩ = some (.int .u64 (lw : Int)) ∧ w'.cell? ⟨bx, 2, none⟩ = some (.int .u32 (ll : Int)) ∧ w'.cell? ⟨bx, 3, none⟩ = some (.int .u32 (lr : Int)) ∧ Hid (w'.heap[z]? = some (.cells #[.slice no n nc, .slice uo fu uc, .slice ul p ulc, .slice wo fd wc, .slice dl q dlc] 25) ∧ w'.heap[bx]? = some (.cells #[.int .u32 (lh : Int), .int .u64 (lw : Int), .int .u32 (ll : Int), .int .u32 (lr : Int)] 71))) wx → Calls Tryz.prog 54 #[(.agg #[.slice no n nc, .slice uo fu uc, .slice ul p ulc, .slice wo fd wc, .slice dl q dlc]), .int .u32 (ll : Int)] wx fun e w' => e = .returned (.int .u32 (y : Int)) ∧ Grows wx w' ∧ (fun w' => w'.cell? ⟨z, 0, none⟩ = some (.slice no n nc) ∧ w'.cell? ⟨z, 1, none⟩ = some (.slice uo fu uc) ∧ w'.cell? ⟨z, 2, none⟩ = some (.slice ul p ulc) ∧ w'.cell? ⟨z, 3, none⟩ = some (.slice wo fd wc) ∧ w'.cell? ⟨z, 4, none⟩ = some (.slice dl q dlc) ∧ w'.cell? ⟨bx, 0, none⟩ = some (.int .u32 (lh : Int)) ∧ w'.cell? ⟨bx, 1, none⟩ = some (.int .u64 (lw : Int)) ∧ w'.cell? ⟨bx, 2, none⟩ = some (.int .u32 (ll : Int)) ∧ w'.cell? ⟨bx, 3, none⟩ = some (.int .u32 (lr : Int)) ∧ Hid (w'.heap[z]? = some (.cells #[.slice no n nc, .slice uo fu uc, .slice ul p ulc, .slice wo fd wc, .slice dl q dlc] 25) ∧ w'.heap[bx]? = some (.cells #[.int .u32 (lh : Int), .int .u64 (lw : Int), .int .u32 (ll : Int), .int .u32 (lr : Int)] 71))) w') := fun wx hS => (HN2.out wx).mono (by rintro e w' ⟨rfl, hb⟩; exact ⟨rfl, hb, HKS.out wx w' hS hb⟩)
      refine wp_region_M (S := (fun w' => w'.cell? ⟨z, 0, none⟩ = some (.slice no n nc) ∧ w'.cell? ⟨z, 1, none⟩ = some (.slice uo fu uc) ∧ w'.cell? ⟨z, 2, none⟩ = some (.slice ul p ulc) ∧ w'.cell? ⟨z, 3, none⟩ = some (.slice wo fd wc) ∧ w'.cell? ⟨z, 4, none⟩ = some (.slice dl q dlc) ∧ w'.cell? ⟨bx, 0, none⟩ = some (.int .u32 (lh : Int)) ∧ w'.cell? ⟨bx, 1, none⟩ = some (.int .u64 (lw : Int)) ∧ w'.cell? ⟨bx, 2, none⟩ = some (.int .u32 (ll : Int)) ∧ w'.cell? ⟨bx, 3, none⟩ = some (.int .u32 (lr : Int)) ∧ Hid (w'.heap[z]? = some (.cells #[.slice no n nc, .slice uo fu uc, .slice ul p ulc, .slice wo fd wc, .slice dl q dlc] 25) ∧ w'.heap[bx]? = some (.cells #[.int .u32 (lh : Int), .int .u64 (lw : Int), .int .u32 (ll : Int), .int .u32 (lr : Int)] 71)))) (by kernel_rfl) (HSS.out _ (H1.out _ (Below.refl _ _).drew).1) ?_
      refine wpAnyM_take (i := 0) (oi := { dst := Option.some 14, op := Op.move (Operand.tmp 5), type := 23, pos := "ref.go:206", after := #[], guard := Option.none }) (v := ?va0) rfl (by kernel_rfl) (by kernel_rfl) (by kernel_rfl) (fun _ _ _ h => h) (YieldsM.of_if (Or.inl ⟨by rfl, ?ha0⟩)) ?ra0
      case ha0 => ((intro wz hSw; (try dsimp only at hSw); go_simp); try (with_reducible rfl))
      try simp only [Act.put, List.setIfInBounds_toArray, List.set_cons_zero, List.set_cons_succ]
      refine wpAnyM_take (i := 1) (oi := { dst := Option.some 15, op := Op.fieldAddr 71 (Operand.tmp 7) 0, type := 0, pos := "ref.go:206", after := #[], guard := Option.none }) (v := ?va1) rfl (by kernel_rfl) (by kernel_rfl) (by kernel_rfl) (fun _ _ _ h => h) (YieldsM.of_if (Or.inl ⟨by rfl, ?ha1⟩)) ?ra1
      case ha1 => ((intro wz hSw; (try dsimp only at hSw); go_simp); try (with_reducible rfl))
      try simp only [Act.put, List.setIfInBounds_toArray, List.set_cons_zero, List.set_cons_succ]
      refine wpAnyM_take (i := 2) (oi := { dst := Option.some 16, op := Op.load 69 (Operand.tmp 15), type := 69, pos := "ref.go:206", after := #[{ on := 1, ground := Ground.data }], guard := Option.none }) (v := ?va2) rfl (by kernel_rfl) (by kernel_rfl) (by kernel_rfl) (fun _ _ _ h => h) (YieldsM.of_if (Or.inl ⟨by rfl, ?ha2⟩)) ?ra2
      case ha2 => ((intro wz hSw; (try dsimp only at hSw); go_simp); try (with_reducible rfl))
      try simp only [Act.put, List.setIfInBounds_toArray, List.set_cons_zero, List.set_cons_succ]
      refine wpAnyM_take (i := 3) (oi := { dst := Option.some 17, op := Op.fieldAddr 71 (Operand.tmp 7) 1, type := 0, pos := "ref.go:206", after := #[], guard := Option.none }) (v := ?va3) rfl (by kernel_rfl) (by kernel_rfl) (by kernel_rfl) (fun _ _ _ h => h) (YieldsM.of_if (Or.inl ⟨by rfl, ?ha3⟩)) ?ra3
      case ha3 => ((intro wz hSw; (try dsimp only at hSw); go_simp); try (with_reducible rfl))
      try simp only [Act.put, List.setIfInBounds_toArray, List.set_cons_zero, List.set_cons_succ]
      refine wpAnyM_take (i := 4) (oi := { dst := Option.some 18, op := Op.load 28 (Operand.tmp 17), type := 28, pos := "ref.go:206", after := #[{ on := 3, ground := Ground.data }], guard := Option.none }) (v := ?va4) rfl (by kernel_rfl) (by kernel_rfl) (by kernel_rfl) (fun _ _ _ h => h) (YieldsM.of_if (Or.inl ⟨by rfl, ?ha4⟩)) ?ra4
      case ha4 => ((intro wz hSw; (try dsimp only at hSw); go_simp); try (with_reducible rfl))
      try simp only [Act.put, List.setIfInBounds_toArray, List.set_cons_zero, List.set_cons_succ]
      refine wpAnyM_take (i := 5) (oi := { dst := Option.some 19, op := Op.load 25 (Operand.tmp 2), type := 25, pos := "ref.go:206", after := #[], guard := Option.none }) (v := ?va5) rfl (by kernel_rfl) (by kernel_rfl) (by kernel_rfl) (fun _ _ _ h => h) (YieldsM.of_if (Or.inl ⟨by rfl, ?ha5⟩)) ?ra5
      case ha5 => ((intro wz hSw; (try dsimp only at hSw); go_simp); try (with_reducible rfl))
      try simp only [Act.put, List.setIfInBounds_toArray, List.set_cons_zero, List.set_cons_succ]
      refine wpAnyM_take (i := 6) (oi := { dst := Option.some 20, op := Op.fieldAddr 71 (Operand.tmp 7) 3, type := 0, pos := "ref.go:206", after := #[], guard := Option.none }) (v := ?va6) rfl (by kernel_rfl) (by kernel_rfl) (by kernel_rfl) (fun _ _ _ h => h) (YieldsM.of_if (Or.inl ⟨by rfl, ?ha6⟩)) ?ra6
      case ha6 => ((intro wz hSw; (try dsimp only at hSw); go_simp); try (with_reducible rfl))
      try simp only [Act.put, List.setIfInBounds_toArray, List.set_cons_zero, List.set_cons_succ]
      refine wpAnyM_take (i := 7) (oi := { dst := Option.some 21, op := Op.load 69 (Operand.tmp 20), type := 69, pos := "ref.go:206", after := #[{ on := 6, ground := Ground.data }], guard := Option.none }) (v := ?va7) rfl (by kernel_rfl) (by kernel_rfl) (by kernel_rfl) (fun _ _ _ h => h) (YieldsM.of_if (Or.inl ⟨by rfl, ?ha7⟩)) ?ra7
      case ha7 => ((intro wz hSw; (try dsimp only at hSw); go_simp); try (with_reducible rfl))
      try simp only [Act.put, List.setIfInBounds_toArray, List.set_cons_zero, List.set_cons_succ]
      refine wpAnyM_take (i := 8) (oi := { dst := Option.some 22, op := Op.call { callee := Callee.value (Operand.func 54), args := #[Operand.tmp 19, Operand.tmp 21], argTypes := #[25, 69] }, type := 69, pos := "ref.go:206", after := #[{ on := 5, ground := Ground.data }, { on := 7, ground := Ground.data }], guard := Option.none }) (v := (.int .u32 (x : Int))) rfl (by kernel_rfl) (by kernel_rfl) (by kernel_rfl) (fun _ _ _ h => h) (YieldsM.of_call (f := 54) (by rfl) (fun _ _ => by kernel_rfl) (HC1.out)) ?_
      try simp only [Act.put, List.setIfInBounds_toArray, List.set_cons_zero, List.set_cons_succ]
      refine wpAnyM_take (i := 9) (oi := { dst := Option.some 23, op := Op.load 25 (Operand.tmp 2), type := 25, pos := "ref.go:206", after := #[], guard := Option.none }) (v := ?va9) rfl (by kernel_rfl) (by kernel_rfl) (by kernel_rfl) (fun _ _ _ h => h) (YieldsM.of_if (Or.inl ⟨by rfl, ?ha9⟩)) ?ra9
      case ha9 => ((intro wz hSw; (try dsimp only at hSw); go_simp); try (with_reducible rfl))
      try simp only [Act.put, List.setIfInBounds_toArray, List.set_cons_zero, List.set_cons_succ]
      refine wpAnyM_take (i := 10) (oi := { dst := Option.some 24, op := Op.fieldAddr 71 (Operand.tmp 7) 2, type := 0, pos := "ref.go:206", after := #[], guard := Option.none }) (v := ?va10) rfl (by kernel_rfl) (by kernel_rfl) (by kernel_rfl) (fun _ _ _ h => h) (YieldsM.of_if (Or.inl ⟨by rfl, ?ha10⟩)) ?ra10
      case ha10 => ((intro wz hSw; (try dsimp only at hSw); go_simp); try (with_reducible rfl))
      try simp only [Act.put, List.setIfInBounds_toArray, List.set_cons_zero, List.set_cons_succ]
      refine wpAnyM_take (i := 11) (oi := { dst := Option.some 25, op := Op.load 69 (Operand.tmp 24), type := 69, pos := "ref.go:206", after := #[{ on := 10, ground := Ground.data }], guard := Option.none }) (v := ?va11) rfl (by kernel_rfl) (by kernel_rfl) (by kernel_rfl) (fun _ _ _ h => h) (YieldsM.of_if (Or.inl ⟨by rfl, ?ha11⟩)) ?ra11
      case ha11 => ((intro wz hSw; (try dsimp only at hSw); go_simp); try (with_reducible rfl))
      try simp only [Act.put, List.setIfInBounds_toArray, List.set_cons_zero, List.set_cons_succ]
      refine wpAnyM_take (i := 12) (oi := { dst := Option.some 26, op := Op.call { callee := Callee.value (Operand.func 54), args := #[Operand.tmp 23, Operand.tmp 25], argTypes := #[25, 69] }, type := 69, pos := "ref.go:206", after := #[{ on := 9, ground := Ground.data }, { on := 11, ground := Ground.data }, { on := 8, ground := Ground.chain }], guard := Option.none }) (v := (.int .u32 (y : Int))) rfl (by kernel_rfl) (by kernel_rfl) (by kernel_rfl) (fun _ _ _ h => h) (YieldsM.of_call (f := 54) (by rfl) (fun _ _ => by kernel_rfl) (HC2.out)) ?_
      try simp only [Act.put, List.setIfInBounds_toArray, List.set_cons_zero, List.set_cons_succ]
      refine wpAnyM_take (i := 13) (oi := { dst := Option.some 27, op := Op.build 71 #[(0, Operand.tmp 16), (1, Operand.tmp 18), (2, Operand.tmp 22), (3, Operand.tmp 26)], type := 71, pos := "ref.go:206", after := #[{ on := 2, ground := Ground.data }, { on := 4, ground := Ground.data }, { on := 8, ground := Ground.data }, { on := 12, ground := Ground.data }], guard := Option.none }) (v := ?va13) rfl (by kernel_rfl) (by kernel_rfl) (by kernel_rfl) (fun _ _ _ h => h) (YieldsM.of_if (Or.inl ⟨by rfl, ?ha13⟩)) ?ra13
      case ha13 => ((intro wz hSw; (try dsimp only at hSw); go_simp); try (with_reducible rfl))
      try simp only [Act.put, List.setIfInBounds_toArray, List.set_cons_zero, List.set_cons_succ]
      have F1 : Hid (∀ wx, Below W1.drew.heap.size W1.drew wx → (wx.heap[z]? = some (.cells #[.slice no n nc, .slice uo fu uc, .slice ul p ulc, .slice wo fd wc, .slice dl q dlc] 25) ∧ wx.heap[bx]? = some (.cells #[.int .u32 (lh : Int), .int .u64 (lw : Int), .int .u32 (ll : Int), .int .u32 (lr : Int)] 71)) ∧ wx.ownsRow W0.heap.size 71 4 (.slice so k sc) k (lvs ((l.map (rTurnL p q)).take k)) ∧ Below W0.heap.size W0 wx) := fun wx hx => H1.out wx (btrH' (Below.refl _ _).drew hx)
      refine readyM (i := 14) (o := { dst := Option.some 28, op := Op.buildSlice 23 1 #[(0, Operand.tmp 27)], type := 23, pos := "ref.go:206", after := #[{ on := 13, ground := Ground.data }], guard := Option.none }) rfl (by kernel_rfl) ?_
      intro u1 hg1 hS1 K hK
      have hf := F1.out u1 hg1
      have hbs := build_lk (lh : Int) (lw : Int) (x : Int) (y : Int)
      have F2 : Hid (∀ wx, Below (u1.alloc (.cells #[.int .u32 (lh : Int), .int .u64 (lw : Int), .int .u32 (x : Int), .int .u32 (y : Int)] 71)).heap.size (u1.alloc (.cells #[.int .u32 (lh : Int), .int .u64 (lw : Int), .int .u32 (x : Int), .int .u32 (y : Int)] 71)) wx → ((wx.heap[z]? = some (.cells #[.slice no n nc, .slice uo fu uc, .slice ul p ulc, .slice wo fd wc, .slice dl q dlc] 25) ∧ wx.heap[bx]? = some (.cells #[.int .u32 (lh : Int), .int .u64 (lw : Int), .int .u32 (ll : Int), .int .u32 (lr : Int)] 71)) ∧ wx.ownsRow W0.heap.size 71 4 (.slice so k sc) k (lvs ((l.map (rTurnL p q)).take k)) ∧ Below W0.heap.size W0 wx) ∧ wx.heap[u1.heap.size]? = some (.cells #[.int .u32 (lh : Int), .int .u64 (lw : Int), .int .u32 (x : Int), .int .u32 (y : Int)] 71)) := fun wx hx => by
        have g1 := heap_newW u1 (.cells #[.int .u32 (lh : Int), .int .u64 (lw : Int), .int .u32 (x : Int), .int .u32 (y : Int)] 71)
        have g2 : Below u1.heap.size u1 (u1.alloc (.cells #[.int .u32 (lh : Int), .int .u64 (lw : Int), .int .u32 (x : Int), .int .u32 (y : Int)] 71)) := (Below.refl _ _).alloc (Nat.le_refl _) _
        exact ⟨F1.out wx (btrH' hg1 (btrH' g2 hx)), (hx.block _ (some_lt g1)).trans g1⟩
      clear hS1
      go_simp
      refine hK.out _ _ (HSS.out _ (F2.out _ (Below.refl _ _)).1.1) ?_
      clear hK K hbs
      obtain ⟨g, hgg⟩ : ∃ g, u1.heap.size = g := ⟨_, rfl⟩
      rw [hgg] at F2 ⊢
      generalize u1.alloc (.cells #[.int .u32 (lh : Int), .int .u64 (lw : Int), .int .u32 (x : Int), .int .u32 (y : Int)] 71) = U2 at F2 ⊢
      clear hgg hf hg1 F1
      try simp only [Act.put, List.setIfInBounds_toArray, List.set_cons_zero, List.set_cons_succ]
      refine readyM (i := 15) (o := { dst := Option.some 29, op := Op.call { callee := Callee.builtin Builtin.append, args := #[Operand.tmp 14, Operand.tmp 28], argTypes := #[23, 23] }, type := 23, pos := "ref.go:206", after := #[{ on := 0, ground := Ground.data }, { on := 14, ground := Ground.data }, { on := 12, ground := Ground.chain }], guard := Option.none }) rfl (by kernel_rfl) ?_
      intro u3 hg3 hS3 K hK
      rw [if_pos (by rfl)]
      have hf := F2.out u3 hg3
      refine wp_append_own u3 _ _ 23 rfl W0.heap.size 71 i0 (.agg #[.int .u32 0, .int .u64 0, .int .u32 0, .int .u32 0]) 4 24 Tryz.underlying23 HI.out.1 HI.out.2.1 HI.out.2.2.1 HI.out.2.2.2 rfl (by decide) (.slice so k sc) k (lvs ((l.map (rTurnL p q)).take k)) rfl hf.1.2.1 ⟨g, 0, none⟩ 1 1 (lvs [⟨lh, lw, x, y⟩]) rfl rfl (by
        obtain ⟨b0, b1, b2, b3⟩ := four_at hf.2
        exact cells_four b0 b1 b2 b3) (lvs_one _) (by unfold maxLen; omega) (by omega) hf.1.2.2.size ?_
      intro v5 w5 hown5 hgr5 _
      have H5 : Hid (w5.ownsRow W0.heap.size 71 4 v5 (k + 1) (lvs ((l.map (rTurnL p q)).take (k + 1))) ∧ Below W0.heap.size W0 w5) := ⟨by rw [HT1.out, lvs_append]; exact hown5, below_grown hf.1.2.2 hf.1.2.1 hgr5 hf.1.2.2.size⟩
      have HZB : Hid (w5.heap[z]? = some (.cells #[.slice no n nc, .slice uo fu uc, .slice ul p ulc, .slice wo fd wc, .slice dl q dlc] 25) ∧ w5.heap[bx]? = some (.cells #[.int .u32 (lh : Int), .int .u64 (lw : Int), .int .u32 (ll : Int), .int .u32 (lr : Int)] 71)) := ⟨(hgr5.block z (some_lt hf.1.1.1) (fun e => (HOB.out z e.symm).1 rfl)).trans hf.1.1.1, (hgr5.block bx (some_lt hf.1.1.2) (fun e => (HOB.out bx e.symm).2 rfl)).trans hf.1.1.2⟩
      clear hown5 hgr5 hf hg3 hS3 F2
      obtain ⟨po, pc, hv5⟩ := own_slice H5.out.1
      subst hv5
      refine hK.out _ _ (HSS.out _ HZB.out) ?_
      clear hK K
      try simp only [Act.put, List.setIfInBounds_toArray, List.set_cons_zero, List.set_cons_succ]
      refine wpAnyM_take (i := 16) (oi := { dst := Option.some 5, op := Op.assign (Operand.tmp 29), type := 23, pos := "ref.go:206", after := #[{ on := 15, ground := Ground.data }, { on := 15, ground := Ground.chain }, { on := 0, ground := Ground.phase }, { on := 1, ground := Ground.phase }, { on := 2, ground := Ground.phase }, { on := 3, ground := Ground.phase }, { on := 4, ground := Ground.phase }, { on := 5, ground := Ground.phase }, { on := 6, ground := Ground.phase }, { on := 7, ground := Ground.phase }, { on := 8, ground := Ground.phase }, { on := 9, ground := Ground.phase }, { on := 10, ground := Ground.phase }, { on := 11, ground := Ground.phase }, { on := 12, ground := Ground.phase }, { on := 13, ground := Ground.phase }, { on := 14, ground := Ground.phase }, { on := 15, ground := Ground.phase }], guard := Option.none }) (v := ?vc16) rfl (by kernel_rfl) (by kernel_rfl) (by kernel_rfl) (fun _ _ _ h => h) (YieldsM.of_if (Or.inl ⟨by rfl, ?hc16⟩)) ?rc16
      case hc16 => ((intro wz hSw; (try dsimp only at hSw); go_simp); try (with_reducible rfl))
      try simp only [Act.put, List.setIfInBounds_toArray, List.set_cons_zero, List.set_cons_succ]
      refine wpAnyM_done (by kernel_rfl) ?_ _
      intro u6 hg6 hS6
      have H6 : Hid (u6.ownsRow W0.heap.size 71 4 (.slice po (k + 1) pc) (k + 1) (lvs ((l.map (rTurnL p q)).take (k + 1))) ∧ Below W0.heap.size W0 u6) := ⟨own_upO H5.out.1 hg6, btrH' H5.out.2 hg6⟩
      clear hS6 hg6 H5 HZB
      go_wp2
      go_roundw
      case rel => exact ⟨k + 1, po, pc, by omega, by go_num, rfl, H6.out.1, H6.out.2⟩
      case measure => simp [intOf]; omega
    · obtain rfl : k = l.length := by omega
      have HK2 : Hid (wr.ownsRow w.heap.size 71 4 (.slice so l.length sc) l.length (lvs (l.map (rTurnL p q))) ∧ Below w.heap.size w wr) := ⟨own_lowO (by have g := HO.out; rw [show l.length = (l.map (rTurnL p q)).length by simp, List.take_length] at g; simpa using g) HZ0.out.2, (HQ.out wr HB.out).2.2⟩
      clear HO HB
      go_wp2_with fail
      go_ret
      exact ⟨so, sc, rfl, HK2.out.1, HK2.out.2⟩
theorem turned_calls (v : HV) (h : Hr) (lo : Option Addr) (lc : Nat) (l : List Lk) (w : World) (hl : HasLs w (.slice lo l.length lc) l) (hm : l.length * 24 ≤ 140737488351232) (hL : h.up.length + h.dn.length ≤ 1048576) :
    Calls Tryz.prog 48 #[hvl v h, .slice lo l.length lc] w fun e w' => ∃ mo mc, e = .returned (.slice mo l.length mc) ∧ w'.ownsRow w.heap.size 71 4 (.slice mo l.length mc) l.length (lvs (l.map (rTurnL h.up.length h.dn.length))) ∧ Below w.heap.size w w' :=
  turned_aux v.no v.uo v.ul v.wo v.dl v.nc v.uc v.ulc v.wc v.dlc h.node.length h.upF.length h.up.length h.dnF.length h.dn.length lo lc l w (fun i wx hi => number_calls v h i wx hi hL) hl hm
theorem rturn_eq {h : Hr} (hc : chk h = (0, [])) {l : Lk} (hl : l ∈ h.up ∨ l ∈ h.dn) : rTurnL h.up.length h.dn.length l = turnL h.up.length h.dn.length l := by
  obtain ⟨k1, k2, _⟩ := chk_ok hc
  unfold rTurnL turnL
  by_cases hp : l.plain = true
  · rw [if_pos hp]
    obtain ⟨lh, lw, ll, lr⟩ := l
    simp only [Lk.plain] at hp
    simp at hp
    obtain ⟨rfl, rfl⟩ := hp
    rfl
  · rw [if_neg hp]
    obtain ⟨q1, q2, q3⟩ := kids_mem hc hl (by simpa using hp)
    unfold numT
    rw [if_neg (by omega), if_pos q3, if_neg (by omega), if_neg (by omega)]
theorem rturn_map {h : Hr} (hc : chk h = (0, [])) {L : List Lk} (hl : L = h.up ∨ L = h.dn) : L.map (rTurnL h.up.length h.dn.length) = L.map (turnL h.up.length h.dn.length) := by
  refine List.map_congr_left fun l hm => rturn_eq hc ?_
  rcases hl with rfl | rfl
  · exact Or.inl hm
  · exact Or.inr hm
theorem turn_res {W : World} {z : Nat} {x0 x1 x2 x3 x4 : Value} {tmps : Array Value} (h1 : W.heap[z]? = some (.cells #[x0, x1, x2, x3, x4] 25)) (t4 : tmps[2]?.getD undef = .pointer (some ⟨z, 0, none⟩)) :
    (results Tryz.f34 tmps).run Tryz.prog W = .ok (.agg #[x0, x1, x2, x3, x4]) W := by
  obtain ⟨c0, c1, c2, c3, c4⟩ := five_cells h1
  simp [results, Tryz.results34, go_sem, t4, c0, c1, c2, c3, c4]

set_option maxRecDepth 100000 in
set_option maxHeartbeats 4000000 in
theorem rTurn_calls (v : HV) (h : Hr) (w : World) (hH : HasH w v h) (hr : Reach h) (hc : chk h = (0, [])) :
    Calls Tryz.prog 34 #[hvl v h] w fun e w' => ∃ u, e = .returned (hvl u (turnH h)) ∧ HasH w' u (turnH h) ∧ Below w.heap.size w w' := by
  obtain ⟨z, hz⟩ : ∃ z, w.heap.size = z := ⟨_, rfl⟩
  obtain ⟨W0, hW0⟩ : ∃ W0, (w.alloc (.cells (cellsH v h) 25)).alloc (.cells #[.slice none 0 0, .slice none 0 0, .slice none 0 0, .slice none 0 0, .slice none 0 0] 25) = W0 := ⟨_, rfl⟩
  have hB0 : Below w.heap.size w W0 := by rw [← hW0]; exact ((Below.refl _ w).alloc (Nat.le_refl _) _).alloc (by simp) _
  have h0 : W0.heap[z]? = some (.cells (cellsH v h) 25) := by
    rw [← hW0, ← hz]; exact (Below.heap_alloc _ _ _ (by simp)).trans (heap_newW _ _)
  have h1 : W0.heap[z + 1]? = some (.cells #[.slice none 0 0, .slice none 0 0, .slice none 0 0, .slice none 0 0, .slice none 0 0] 25) := by
    have g := heap_newW (w.alloc (.cells (cellsH v h) 25)) (.cells #[.slice none 0 0, .slice none 0 0, .slice none 0 0, .slice none 0 0, .slice none 0 0] 25)
    rw [World.size_alloc, hW0, hz] at g
    exact g
  have hpq : h.up.length + h.dn.length ≤ 1048576 := (chk_ok hc).2.1
  have HOKL : Hid ((∀ l ∈ h.dn.map (turnL h.up.length h.dn.length), l.ok) ∧ ∀ l ∈ h.up.map (turnL h.up.length h.dn.length), l.ok) := by
    refine ⟨fun l hl => ?_, fun l hl => ?_⟩
    · obtain ⟨m, hm, rfl⟩ := List.mem_map.1 hl
      exact turnL_ok hpq (fun hp => kids_mem hc (Or.inr hm) hp) (hH.dn.ok m hm)
    · obtain ⟨m, hm, rfl⟩ := List.mem_map.1 hl
      exact turnL_ok hpq (fun hp => kids_mem hc (Or.inl hm) hp) (hH.up.ok m hm)
  have HB0 : Hid (∀ wx, Below W0.heap.size W0 wx → Below w.heap.size w wx ∧ wx.heap[z + 1]? = some (.cells #[.slice none 0 0, .slice none 0 0, .slice none 0 0, .slice none 0 0, .slice none 0 0] 25)) := fun wx hx => ⟨hB0.trans (hx.mono hB0.size), (hx.block _ (some_lt h1)).trans h1⟩
  have HQ : Hid (∀ wx, Below W0.heap.size W0 wx → wx.cell? ⟨z, 0, none⟩ = some (.slice v.no h.node.length v.nc) ∧ wx.cell? ⟨z, 1, none⟩ = some (.slice v.uo h.upF.length v.uc) ∧ wx.cell? ⟨z, 2, none⟩ = some (.slice v.ul h.up.length v.ulc) ∧ wx.cell? ⟨z, 3, none⟩ = some (.slice v.wo h.dnF.length v.wc) ∧ wx.cell? ⟨z, 4, none⟩ = some (.slice v.dl h.dn.length v.dlc)) := fun wx hx => five_cells ((hx.block _ (some_lt h0)).trans h0)
  have HZ : Hid (∀ wx, Below W0.heap.size W0 wx → (∀ i, i < 5 → wx.cell? ⟨z + 1, i, none⟩ = some (.slice none 0 0)) ∧ ∀ i, wx.frozen? ⟨z + 1, i, none⟩ = false) := fun wx hx => by
    have g := (hx.block _ (some_lt h1)).trans h1
    refine ⟨fun i hi => ?_, fun i => by simp [World.frozen?, g]⟩
    rcases (show i = 0 ∨ i = 1 ∨ i = 2 ∨ i = 3 ∨ i = 4 by omega) with rfl | rfl | rfl | rfl | rfl <;> simp [World.cell?, g]
  have H1 : Hid (∀ wx, Below W0.heap.size W0 wx → Calls Tryz.prog 20 #[.slice v.no h.node.length v.nc] wx fun e w' => ∃ mo mc, e = .returned (.slice mo h.node.length mc) ∧ HasWs w' (.slice mo h.node.length mc) h.node ∧ (∀ a, mo = some a → W0.heap.size ≤ a.block) ∧ Below wx.heap.size wx w') := fun wx hx => (twords_calls _ _ _ wx (hH.node.keep (hB0.trans (hx.mono hB0.size))) hr.node).mono (by rintro e w' ⟨mo, mc, rfl, ho, hb⟩; exact ⟨mo, mc, rfl, ws_of_own ho hH.node.ok, fun a ea => Nat.le_trans hx.size (own_high ho a ea), hb⟩)
  have H2 : Hid (∀ wx, Below W0.heap.size W0 wx → Calls Tryz.prog 20 #[.slice v.wo h.dnF.length v.wc] wx fun e w' => ∃ mo mc, e = .returned (.slice mo h.dnF.length mc) ∧ HasWs w' (.slice mo h.dnF.length mc) h.dnF ∧ (∀ a, mo = some a → W0.heap.size ≤ a.block) ∧ Below wx.heap.size wx w') := fun wx hx => (twords_calls _ _ _ wx (hH.dnF.keep (hB0.trans (hx.mono hB0.size))) hr.dnF).mono (by rintro e w' ⟨mo, mc, rfl, ho, hb⟩; exact ⟨mo, mc, rfl, ws_of_own ho hH.dnF.ok, fun a ea => Nat.le_trans hx.size (own_high ho a ea), hb⟩)
  have H3 : Hid (∀ wx, Below W0.heap.size W0 wx → Calls Tryz.prog 48 #[hvl v h, .slice v.dl h.dn.length v.dlc] wx fun e w' => ∃ mo mc, e = .returned (.slice mo h.dn.length mc) ∧ HasLs w' (.slice mo h.dn.length mc) (h.dn.map (turnL h.up.length h.dn.length)) ∧ (∀ a, mo = some a → W0.heap.size ≤ a.block) ∧ Below wx.heap.size wx w') := fun wx hx => (turned_calls v h _ _ _ wx (hH.dn.keep (hB0.trans (hx.mono hB0.size))) hr.dn hpq).mono (by
    rintro e w' ⟨mo, mc, rfl, ho, hb⟩
    rw [rturn_map hc (Or.inr rfl)] at ho
    exact ⟨mo, mc, rfl, ls_of_own (by rw [List.length_map]; exact ho) HOKL.out.1, fun a ea => Nat.le_trans hx.size (own_high ho a ea), hb⟩)
  have H4 : Hid (∀ wx, Below W0.heap.size W0 wx → Calls Tryz.prog 20 #[.slice v.uo h.upF.length v.uc] wx fun e w' => ∃ mo mc, e = .returned (.slice mo h.upF.length mc) ∧ HasWs w' (.slice mo h.upF.length mc) h.upF ∧ (∀ a, mo = some a → W0.heap.size ≤ a.block) ∧ Below wx.heap.size wx w') := fun wx hx => (twords_calls _ _ _ wx (hH.upF.keep (hB0.trans (hx.mono hB0.size))) hr.upF).mono (by rintro e w' ⟨mo, mc, rfl, ho, hb⟩; exact ⟨mo, mc, rfl, ws_of_own ho hH.upF.ok, fun a ea => Nat.le_trans hx.size (own_high ho a ea), hb⟩)
  have H5 : Hid (∀ wx, Below W0.heap.size W0 wx → Calls Tryz.prog 48 #[hvl v h, .slice v.ul h.up.length v.ulc] wx fun e w' => ∃ mo mc, e = .returned (.slice mo h.up.length mc) ∧ HasLs w' (.slice mo h.up.length mc) (h.up.map (turnL h.up.length h.dn.length)) ∧ (∀ a, mo = some a → W0.heap.size ≤ a.block) ∧ Below wx.heap.size wx w') := fun wx hx => (turned_calls v h _ _ _ wx (hH.up.keep (hB0.trans (hx.mono hB0.size))) hr.up hpq).mono (by
    rintro e w' ⟨mo, mc, rfl, ho, hb⟩
    rw [rturn_map hc (Or.inl rfl)] at ho
    exact ⟨mo, mc, rfl, ls_of_own (by rw [List.length_map]; exact ho) HOKL.out.2, fun a ea => Nat.le_trans hx.size (own_high ho a ea), hb⟩)
  have HW0 : Hid ((w.alloc (.cells (cellsH v h) 25)).alloc (.cells #[.slice none 0 0, .slice none 0 0, .slice none 0 0, .slice none 0 0, .slice none 0 0] 25) = W0) := hW0
  clear hW0 h0 h1 hB0 hH hr hc hpq HOKL
  have Y0 : Hid (Below W0.heap.size W0 W0) := Below.refl _ _
  obtain ⟨a0, a1, a2, a3, a4⟩ := HQ.out W0 Y0.out
  have HZZ : Hid (w.heap.size = z) := hz
  unfold cellsH at HW0
  unfold hvl at H3 H5
  unfold hvl
  go_enter Tryz.func34, Tryz.ntmps34
  go_upto_region 1 with fail
  rw [HW0.out]
  go_region_held3 (fun w' => w'.cell? ⟨z, 0, none⟩ = some (.slice v.no h.node.length v.nc) ∧ w'.cell? ⟨z, 1, none⟩ = some (.slice v.uo h.upF.length v.uc) ∧ w'.cell? ⟨z, 2, none⟩ = some (.slice v.ul h.up.length v.ulc) ∧ w'.cell? ⟨z, 3, none⟩ = some (.slice v.wo h.dnF.length v.wc) ∧ w'.cell? ⟨z, 4, none⟩ = some (.slice v.dl h.dn.length v.dlc)) (go_keep) (first
    | (go_at_call 48; refine (H5.out _ Y4.out).mono ?_; rintro e y5 ⟨m5, c5, rfl, hh, hg, hy⟩; have G5 : Hid (∀ a, m5 = some a → W0.heap.size ≤ a.block) := hg; clear hg; have Y5 : Hid (Below W0.heap.size W0 y5) := btrH' Y4.out hy; have X5_1 : Hid (HasWs y5 (.slice m1 h.node.length c1) h.node) := X4_1.out.keep hy; have X5_2 : Hid (HasWs y5 (.slice m2 h.dnF.length c2) h.dnF) := X4_2.out.keep hy; have X5_3 : Hid (HasLs y5 (.slice m3 h.dn.length c3) (h.dn.map (turnL h.up.length h.dn.length))) := X4_3.out.keep hy; have X5_4 : Hid (HasWs y5 (.slice m4 h.upF.length c4) h.upF) := X4_4.out.keep hy; have X5_5 : Hid (HasLs y5 (.slice m5 h.up.length c5) (h.up.map (turnL h.up.length h.dn.length))) := hh; obtain ⟨a0, a1, a2, a3, a4⟩ := HQ.out y5 Y5.out; obtain ⟨k0, k1⟩ := HZ.out y5 Y5.out; have k2 := k0 0 (by omega); have k3 := k0 1 (by omega); have k4 := k0 2 (by omega); have k5 := k0 3 (by omega); have k6 := k0 4 (by omega); have l2 := k1 0; have l3 := k1 1; have l4 := k1 2; have l5 := k1 3; have l6 := k1 4; clear k0 k1; clear hy hh)
    | (go_at_call 20; refine (H4.out _ Y3.out).mono ?_; rintro e y4 ⟨m4, c4, rfl, hh, hg, hy⟩; have G4 : Hid (∀ a, m4 = some a → W0.heap.size ≤ a.block) := hg; clear hg; have Y4 : Hid (Below W0.heap.size W0 y4) := btrH' Y3.out hy; have X4_1 : Hid (HasWs y4 (.slice m1 h.node.length c1) h.node) := X3_1.out.keep hy; have X4_2 : Hid (HasWs y4 (.slice m2 h.dnF.length c2) h.dnF) := X3_2.out.keep hy; have X4_3 : Hid (HasLs y4 (.slice m3 h.dn.length c3) (h.dn.map (turnL h.up.length h.dn.length))) := X3_3.out.keep hy; have X4_4 : Hid (HasWs y4 (.slice m4 h.upF.length c4) h.upF) := hh; obtain ⟨a0, a1, a2, a3, a4⟩ := HQ.out y4 Y4.out; clear hy hh)
    | (go_at_call 48; refine (H3.out _ Y2.out).mono ?_; rintro e y3 ⟨m3, c3, rfl, hh, hg, hy⟩; have G3 : Hid (∀ a, m3 = some a → W0.heap.size ≤ a.block) := hg; clear hg; have Y3 : Hid (Below W0.heap.size W0 y3) := btrH' Y2.out hy; have X3_1 : Hid (HasWs y3 (.slice m1 h.node.length c1) h.node) := X2_1.out.keep hy; have X3_2 : Hid (HasWs y3 (.slice m2 h.dnF.length c2) h.dnF) := X2_2.out.keep hy; have X3_3 : Hid (HasLs y3 (.slice m3 h.dn.length c3) (h.dn.map (turnL h.up.length h.dn.length))) := hh; obtain ⟨a0, a1, a2, a3, a4⟩ := HQ.out y3 Y3.out; clear hy hh)
    | (go_at_call 20; refine (H2.out _ Y1.out).mono ?_; rintro e y2 ⟨m2, c2, rfl, hh, hg, hy⟩; have G2 : Hid (∀ a, m2 = some a → W0.heap.size ≤ a.block) := hg; clear hg; have Y2 : Hid (Below W0.heap.size W0 y2) := btrH' Y1.out hy; have X2_1 : Hid (HasWs y2 (.slice m1 h.node.length c1) h.node) := X1_1.out.keep hy; have X2_2 : Hid (HasWs y2 (.slice m2 h.dnF.length c2) h.dnF) := hh; obtain ⟨a0, a1, a2, a3, a4⟩ := HQ.out y2 Y2.out; clear hy hh)
    | (go_at_call 20; refine (H1.out _ Y0.out.drew).mono ?_; rintro e y1 ⟨m1, c1, rfl, hh, hg, hy⟩; have G1 : Hid (∀ a, m1 = some a → W0.heap.size ≤ a.block) := hg; clear hg; have Y1 : Hid (Below W0.heap.size W0 y1) := btrH' Y0.out.drew hy; have X1_1 : Hid (HasWs y1 (.slice m1 h.node.length c1) h.node) := hh; obtain ⟨a0, a1, a2, a3, a4⟩ := HQ.out y1 Y1.out; clear hy hh))
  go_wp2
  have hS := set_five (HB0.out _ Y5.out).2 (.slice m1 h.node.length c1) (.slice m2 h.dnF.length c2) (.slice m3 h.dn.length c3) (.slice m4 h.upF.length c4) (.slice m5 h.up.length c5)
  obtain ⟨hf1, hf2⟩ := five_far y5 (z + 1) (.slice m1 h.node.length c1) (.slice m2 h.dnF.length c2) (.slice m3 h.dn.length c3) (.slice m4 h.upF.length c4) (.slice m5 h.up.length c5)
  have hlt : z + 1 < W0.heap.size := some_lt (HB0.out _ Y0.out).2
  have hbb : Below w.heap.size w (((((y5.setCell ⟨z + 1, 0, none⟩ (.slice m1 h.node.length c1)).setCell ⟨z + 1, 1, none⟩ (.slice m2 h.dnF.length c2)).setCell ⟨z + 1, 2, none⟩ (.slice m3 h.dn.length c3)).setCell ⟨z + 1, 3, none⟩ (.slice m4 h.upF.length c4)).setCell ⟨z + 1, 4, none⟩ (.slice m5 h.up.length c5)) := ((((((HB0.out _ Y5.out).1.setCell (by rw [HZZ.out]; exact Nat.le_succ _) _).setCell (by rw [HZZ.out]; exact Nat.le_succ _) _).setCell (by rw [HZZ.out]; exact Nat.le_succ _) _).setCell (by rw [HZZ.out]; exact Nat.le_succ _) _).setCell (by rw [HZZ.out]; exact Nat.le_succ _) _)
  refine bodyPost_ret (turn_res hS rfl) rfl ⟨⟨m1, m2, m3, m4, m5, c1, c2, c3, c4, c5⟩, ?_, ?_, hbb⟩
  · simp only [turnH, List.length_map]
  generalize (((((y5.setCell ⟨z + 1, 0, none⟩ (.slice m1 h.node.length c1)).setCell ⟨z + 1, 1, none⟩ (.slice m2 h.dnF.length c2)).setCell ⟨z + 1, 2, none⟩ (.slice m3 h.dn.length c3)).setCell ⟨z + 1, 3, none⟩ (.slice m4 h.upF.length c4)).setCell ⟨z + 1, 4, none⟩ (.slice m5 h.up.length c5)) = WE at hf1 hf2
  have hs : y5.heap.size ≤ WE.heap.size := Nat.le_of_eq hf2.symm
  refine ⟨?_, ?_, ?_, ?_, ?_⟩
  · exact ws_far X5_1.out hs (fun a ea => hf1 _ (by have := G1.out a ea; omega))
  · exact ws_far X5_2.out hs (fun a ea => hf1 _ (by have := G2.out a ea; omega))
  · show HasLs WE (.slice m3 (turnH h).up.length c3) (turnH h).up
    rw [show (turnH h).up.length = h.dn.length by unfold turnH; simp]
    exact ls_far X5_3.out hs (fun a ea => hf1 _ (by have := G3.out a ea; omega))
  · exact ws_far X5_4.out hs (fun a ea => hf1 _ (by have := G4.out a ea; omega))
  · show HasLs WE (.slice m5 (turnH h).dn.length c5) (turnH h).dn
    rw [show (turnH h).dn.length = h.up.length by unfold turnH; simp]
    exact ls_far X5_5.out hs (fun a ea => hf1 _ (by have := G5.out a ea; omega))
end Go.Proofs.YthcdkokgfnidiaaGreatDoor.Hi

namespace Go.Proofs.YthcdkokgfnidiaaGreatDoor.Cb
open Go.RowKit Go.Extern Go.Shelf Hi

attribute [local go_sem] Oper.semAt_some

theorem infoU20 : (Tryz.prog.info? 28).map (fun i => (i.zero, i.size, i.bytes)) = some (some (.int .u64 0), 1, 8) := by kernel_rfl
theorem four_c20 {w : World} {b : Nat} {T : TypeId} {a0 a1 a2 a3 : Value} (h : w.heap[b]? = some (.cells #[a0, a1, a2, a3] T)) : w.cell? ⟨b, 0, none⟩ = some a0 ∧ w.cell? ⟨b, 1, none⟩ = some a1 ∧ w.cell? ⟨b, 2, none⟩ = some a2 ∧ w.cell? ⟨b, 3, none⟩ = some a3 := by simp [World.cell?, h]

set_option maxRecDepth 100000 in
set_option maxHeartbeats 8000000 in
theorem dists_aux (no uo ul wo dl : Option Addr) (nc uc ulc wc dlc : Nat) (h : Hr) (s : Nat) (w : World) (hH : HasH w ⟨no, uo, ul, wo, dl, nc, uc, ulc, wc, dlc⟩ h) (hc : chk h = (0, [])) (hs : s < h.node.length) :
    Calls Tryz.prog 32 #[hvl ⟨no, uo, ul, wo, dl, nc, uc, ulc, wc, dlc⟩ h, .int .i64 (s : Int)] w fun e w' => ∃ D, e = .returned (.slice (some ⟨D, 0, none⟩) h.node.length h.node.length) ∧ RAt u64v w' D h.node.length (dv (lens (rowL h.upF h.up) h.node.length s)) ∧ w.heap.size ≤ D ∧ Below w.heap.size w w' := by
  obtain ⟨k1, k2, k3, k4, k5, k6, k7, k8⟩ := chk_ok hc
  have HK : Hid (FOk h.upF h.up.length ∧ h.upF.length = h.node.length + 1) := ⟨k5, k3⟩
  have HROW : Hid (∀ r, r < h.node.length → ∀ l ∈ rowL h.upF h.up r, r < l.hd ∧ l.hd < h.node.length ∧ l.wt ≤ 140737488355328) := fun r hr l hl => row_form hc hr (Or.inl hl)
  obtain ⟨z, hz⟩ : ∃ z, w.heap.size = z := ⟨_, rfl⟩
  obtain ⟨W0, hW0⟩ : ∃ W0, w.alloc (.cells (cellsH ⟨no, uo, ul, wo, dl, nc, uc, ulc, wc, dlc⟩ h) 25) = W0 := ⟨_, rfl⟩
  have HQ : Hid (∀ wx, Below W0.heap.size W0 wx → (wx.cell? ⟨z, 0, none⟩ = some (.slice no h.node.length nc) ∧ wx.cell? ⟨z, 1, none⟩ = some (.slice uo h.upF.length uc) ∧ wx.cell? ⟨z, 2, none⟩ = some (.slice ul h.up.length ulc) ∧ wx.cell? ⟨z, 3, none⟩ = some (.slice wo h.dnF.length wc) ∧ wx.cell? ⟨z, 4, none⟩ = some (.slice dl h.dn.length dlc)) ∧ HasH wx ⟨no, uo, ul, wo, dl, nc, uc, ulc, wc, dlc⟩ h ∧ Below w.heap.size w wx) := fun wx hx => by
    have h1 : W0.heap[z]? = some (.cells (cellsH ⟨no, uo, ul, wo, dl, nc, uc, ulc, wc, dlc⟩ h) 25) := by rw [← hW0, ← hz]; exact heap_newW _ _
    have h2 : Below w.heap.size w W0 := by rw [← hW0]; exact (Below.refl _ _).alloc (Nat.le_refl _) _
    have h3 := btrH' h2 hx
    exact ⟨five_cells ((hx.block _ (some_lt h1)).trans h1), hH.keep h3, h3⟩
  have HW0 : Hid (w.alloc (.cells (cellsH ⟨no, uo, ul, wo, dl, nc, uc, ulc, wc, dlc⟩ h) 25) = W0) := hW0
  clear hW0 hH hc k3 k4 k5 k6 k7 k8
  unfold hvl
  unfold cellsH at HW0
  simp only at HW0 ⊢
  have hmk := run_make_row' (P := Tryz.prog) 80 28 (.int .u64 0) 8 Tryz.underlying80 infoU20 rfl .i64 .i64 h.node.length (by omega) (by omega)
  obtain ⟨D, hD⟩ : ∃ s, W0.heap.size = s := ⟨_, rfl⟩
  obtain ⟨W7, hW7⟩ : ∃ W7, W0.alloc (.cells (madeCells #[.int .u64 0] h.node.length) 28) = W7 := ⟨_, rfl⟩
  have HW7 : Hid (W0.alloc (.cells (madeCells #[.int .u64 0] h.node.length) 28) = W7) := hW7
  have H7 : Hid (RAt u64v W7 D h.node.length (fun j => if j < 0 then far else 0) ∧ Below W0.heap.size W0 W7) := by
    rw [← hW7, ← hD]
    exact ⟨(made_at u64v (0 : Int) 28 W0 h.node.length).eq (fun j _ => by simp), (Below.refl _ _).alloc (Nat.le_refl _) _⟩
  have HDW : Hid (W0.heap.size ≤ D ∧ w.heap.size ≤ D) := by
    have := (HQ.out W0 (Below.refl _ _)).2.2.size
    rw [← hD]; exact ⟨Nat.le_refl _, this⟩
  obtain ⟨c0, c1, c2, c3, c4⟩ := (HQ.out W0 (Below.refl _ _)).1
  clear hW7
  go_enter Tryz.func32, Tryz.ntmps32
  go_upto_region 1 with fail
  rw [HW0.out]
  clear HW0 hz
  go_upto_region 2 with fail
  rw [HW7.out]
  clear HW7 hmk hD c0 c1 c2 c3 c4
  go_wp2_with fail
  go_loopw [16] (fun iv wr => ∃ k : Nat, k ≤ h.node.length ∧ iv = .int .i64 k ∧ Hid (RAt u64v wr D h.node.length (fun j => if j < k then far else 0)) ∧ Hid (Below W0.heap.size W0 wr)) (fun iv _ => h.node.length - (intOf iv).toNat)
  case atStart => exact ⟨0, Nat.zero_le _, rfl, H7.out.1, H7.out.2⟩
  case round =>
    obtain ⟨k, hk, rfl, HD1, HBW⟩ := hrel
    rcases Nat.lt_or_eq_of_le hk with h1 | h1
    · have ck := HD1.out.cell k h1
      have fk := HD1.out.free k
      have i2 : (0 : Int) ≤ (k : Int) := by omega
      have i3 : (k : Int) < (h.node.length : Int) := by omega
      have q6 : decide ((k : Int) < (h.node.length : Int)) = true := by simp; omega
      have q6n : decide (k < h.node.length) = true := by simp; omega
      have HN1 : Hid (RAt u64v (wr.setCell ⟨D, k, none⟩ (.int .u64 18446744073709551615)) D h.node.length (fun j => if j < k + 1 then far else 0) ∧ Below W0.heap.size W0 (wr.setCell ⟨D, k, none⟩ (.int .u64 18446744073709551615))) := ⟨(HD1.out.set far h1).eq (fun j _ => by unfold upd; by_cases e : j = k <;> by_cases g : j < k <;> simp [e, g] <;> omega), HBW.out.setCell (p := ⟨D, k, none⟩) HDW.out.1 _⟩
      go_wp2
      go_roundw
      case rel => exact ⟨k + 1, by omega, by go_num, HN1.out.1, HN1.out.2⟩
      case measure => simp [intOf]; omega
    · have q6 : decide ((k : Int) < (h.node.length : Int)) = false := by simp; omega
      have q6n : decide (k < h.node.length) = false := by simp; omega
      have HD2 : Hid (RAt u64v wr D h.node.length (fun _ => far)) := HD1.out.eq (fun j hj => by rw [h1, if_pos hj])
      have cs := HD2.out.cell s hs
      have fs := HD2.out.free s
      have i2 : (0 : Int) ≤ (s : Int) := by omega
      have i3 : (s : Int) < (h.node.length : Int) := by omega
      have cs' : wr.cell? ⟨D, s, none⟩ = some (.int .u64 18446744073709551615) := cs
      have HS0 : Hid (RAt u64v (wr.setCell ⟨D, s, none⟩ (.int .u64 0)) D h.node.length (dv (start h.node.length s)) ∧ Below W0.heap.size W0 (wr.setCell ⟨D, s, none⟩ (.int .u64 0))) := ⟨(HD2.out.set (0 : Int) hs).eq (fun j _ => (dv_start hs j).symm), HBW.out.setCell (p := ⟨D, s, none⟩) HDW.out.1 _⟩
      clear HD1 h1 hk cs HD2
      go_wp2_with fail
      go_loopw [28] (fun iv wr => ∃ (r : Nat) (vs : List (Option Int)), r ≤ h.node.length ∧ iv = .int .i64 r ∧ Hid (Mid (rowL h.upF h.up) h.node.length s r vs) ∧ Hid (RAt u64v wr D h.node.length (dv vs)) ∧ Hid (Below W0.heap.size W0 wr)) (fun iv _ => h.node.length - (intOf iv).toNat)
      case atStart => exact ⟨0, start h.node.length s, Nat.zero_le _, rfl, mid_start _ _ _, HS0.out.1, HS0.out.2⟩
      case round =>
        obtain ⟨r, vs, hr, rfl, HM, HD5, HB5⟩ := hrel
        rcases Nat.lt_or_eq_of_le hr with h1 | h1
        · generalize hWW3 : wr = WR at *
          clear hWW3
          have i2 : (0 : Int) ≤ (r : Int) := by omega
          have i3n : (r : Int) < (h.node.length : Int) := by omega
          have q6 : decide ((r : Int) < (h.node.length : Int)) = true := by simp; omega
          have q6n : decide (r < h.node.length) = true := by simp; omega
          rcases dv_range HM.out.len h1 with ⟨d, hd⟩ | hnone
          · have hd0 := low_some HM.out.low HM.out.len k1 hd
            have cdr := HD5.out.cell r h1
            rw [dv_some hd] at cdr
            have cdr' : WR.cell? ⟨D, r, none⟩ = some (.int .u64 d) := cdr
            have n1 : (d == 18446744073709551615) = false := by simp; omega
            have HHD : Hid (vs[r]? = some (some d)) := hd
            clear cdr hd
            obtain ⟨c0, c1, c2, c3, c4⟩ := (HQ.out WR HB5.out).1
            have hF := (HQ.out WR HB5.out).2.1.upF
            have hU := (HQ.out WR HB5.out).2.1.up
            obtain ⟨fb, foff, e1, hbl, hcF⟩ := hF.cells (by rw [HK.out.2]; omega)
            have ca := hcF r (by rw [HK.out.2]; omega)
            have cb := hcF (r + 1) (by rw [HK.out.2]; omega)
            have hxy := HK.out.1.le r (by rw [HK.out.2]; omega)
            have hyL := HK.out.1.atmost (a := r + 1) (by rw [HK.out.2]; omega)
            have hcap : h.up.length ≤ ulc := hU.cap
            obtain ⟨so2, hso, hcut⟩ := cut_lks ul h.up.length ulc (nth h.upF r) (nth h.upF (r + 1)) hxy (by omega)
            have HLS0 : Hid (∀ wx, Below W0.heap.size W0 wx → (rowL h.upF h.up r).length = nth h.upF (r + 1) - nth h.upF r ∧ HasLs wx (.slice so2 (nth h.upF (r + 1) - nth h.upF r) (ulc - nth h.upF r)) (rowL h.upF h.up r)) := fun wx hx => ls_cut HK.out.1 (by rw [HK.out.2]; omega) (HQ.out wx hx).2.1.up hso
            obtain ⟨x, hx⟩ : ∃ x, nth h.upF r = x := ⟨_, rfl⟩
            obtain ⟨y, hy⟩ : ∃ y, nth h.upF (r + 1) = y := ⟨_, rfl⟩
            obtain ⟨T, hT⟩ : ∃ T, y - x = T := ⟨_, rfl⟩
            rw [hx, hy, hT] at hcut HLS0
            rw [hx] at ca
            rw [hy] at cb
            have HTL : Hid ((rowL h.upF h.up r).length = T) := (HLS0.out WR HB5.out).1
            have HLS : Hid (∀ wx, Below W0.heap.size W0 wx → HasLs wx (.slice so2 T (ulc - x)) (rowL h.upF h.up r)) := fun wx hx => (HLS0.out wx hx).2
            obtain ⟨fu, hfu⟩ : ∃ fu, h.upF.length = fu := ⟨_, rfl⟩
            have hfn : fu = h.node.length + 1 := by rw [← hfu]; exact HK.out.2
            have i3 : (r : Int) < (fu : Int) := by omega
            have i4 : (r : Int) + 1 < (fu : Int) := by omega
            have i5 : IntKind.i64.wrap ((r : Int) + 1) = (r : Int) + 1 := by rw [IntKind.wrap_i64]; omega
            rw [hfu] at c1
            have HFU : Hid (h.upF.length = fu) := hfu
            have hTb : T ≤ 1152921504606846976 := by have := (HQ.out WR HB5.out).2.1; have g := hyL; omega
            clear hso hF hU hcF hxy hcap hx hy hT hfu hfn HLS0 hyL hbl
            subst e1
            go_wp2_with fail
            go_quiet (fail)
            obtain ⟨WQ, hWQ⟩ : ∃ WQ, WR.drewN nq = WQ := ⟨_, rfl⟩
            rw [hWQ]
            have HWQ : Hid (RAt u64v WQ D h.node.length (dv vs) ∧ Below W0.heap.size W0 WQ) := by
              have g : Below WR.heap.size WR WQ := by rw [← hWQ]; exact bdrew (Below.refl _ _) _
              exact ⟨HD5.out.keep g, btrH' HB5.out g⟩
            clear hWQ c0 c1 c2 c3 c4 ca cb hcut HD5 HB5 cdr'
            go_wp2_with fail
            go_loopw [51] (fun iv wr => ∃ t : Nat, t ≤ T ∧ iv = .int .i64 t ∧ Hid (RAt u64v wr D h.node.length (dv (relaxs d ((rowL h.upF h.up r).take t) vs))) ∧ Hid (Below W0.heap.size W0 wr)) (fun iv _ => T - (intOf iv).toNat)
            case atStart => exact ⟨0, Nat.zero_le _, rfl, HWQ.out.1.eq (fun j _ => by rw [List.take_zero]; rfl), HWQ.out.2⟩
            case round =>
              obtain ⟨t, ht, rfl, HD6, HB4⟩ := hrel
              rcases Nat.lt_or_eq_of_le ht with h2 | h2
              · obtain ⟨l, hl⟩ : ∃ l, (rowL h.upF h.up r)[t]? = some l := ⟨_, List.getElem?_eq_getElem (by rw [HTL.out]; exact h2)⟩
                have hlm : l ∈ rowL h.upF h.up r := List.mem_of_getElem? hl
                obtain ⟨hlo, lb, loff, e1, hll, l0, l1, l2, l3⟩ := (HLS.out wr HB4.out).at hl
                obtain ⟨lh, lw, ll, lr⟩ := l
                simp only at l0 l1 l2 l3
                obtain ⟨hl1, hl2, hl3⟩ := HROW.out r h1 _ hlm
                have hlh : lh < h.node.length := hl2
                have hlr : r < lh := hl1
                have hlw : lw ≤ 140737488355328 := hl3
                have HVL9 : Hid ((relaxs d ((rowL h.upF h.up r).take t) vs).length = h.node.length) := by show _ = _; rw [relaxs_len]; exact HM.out.len
                have HVR : Hid (dv (relaxs d ((rowL h.upF h.up r).take t) vs) r = d) := by
                  refine dv_some ?_
                  rw [relaxs_other _ _ (fun l hl => by have := (HROW.out r h1 l (List.mem_of_mem_take hl)).1; omega)]
                  exact HHD.out
                obtain ⟨kk, hkk⟩ : ∃ kk, dv (relaxs d ((rowL h.upF h.up r).take t) vs) lh = kk := ⟨_, rfl⟩
                have HST : Hid (∀ j, dv (relaxs d ((rowL h.upF h.up r).take (t + 1)) vs) j = upd (dv (relaxs d ((rowL h.upF h.up r).take t) vs)) lh (if d + (lw : Int) < kk then d + (lw : Int) else kk) j) := fun j => by
                  rw [relaxs_snoc hl, ← hkk]
                  exact dv_relax (by rw [HVL9.out]; exact hlh) (by unfold far; simp only; omega) j
                have HKK : Hid (dv (relaxs d ((rowL h.upF h.up r).take t) vs) lh = kk) := hkk
                subst e1
                have j2 : (0 : Int) ≤ (t : Int) := by omega
                have j3 : (t : Int) < (T : Int) := by omega
                have j4 : (0 : Int) ≤ (lh : Int) := by omega
                have j5 : (lh : Int) < (h.node.length : Int) := by omega
                have j8 : IntKind.i64.wrap (lh : Int) = (lh : Int) := by rw [IntKind.wrap_i64]; omega
                have j9 : IntKind.u64.wrap (d + (lw : Int)) = d + (lw : Int) := by rw [IntKind.wrap_u64]; omega
                have q8 : decide ((t : Int) < (T : Int)) = true := by simp; omega
                have q8n : decide (t < T) = true := by simp; omega
                obtain ⟨bx, hbx⟩ : ∃ s, wr.heap.size = s := ⟨_, rfl⟩
                obtain ⟨W1, hW1⟩ : ∃ W1, wr.alloc (.cells #[.int .u32 (lh : Int), .int .u64 (lw : Int), .int .u32 (ll : Int), .int .u32 (lr : Int)] 71) = W1 := ⟨_, rfl⟩
                have HW1 : Hid (wr.alloc (.cells #[.int .u32 (lh : Int), .int .u64 (lw : Int), .int .u32 (ll : Int), .int .u32 (lr : Int)] 71) = W1) := hW1
                have H1 : Hid (∀ wx, Below W1.heap.size W1 wx → wx.heap[bx]? = some (.cells #[.int .u32 (lh : Int), .int .u64 (lw : Int), .int .u32 (ll : Int), .int .u32 (lr : Int)] 71) ∧ RAt u64v wx D h.node.length (dv (relaxs d ((rowL h.upF h.up r).take t) vs)) ∧ Below W0.heap.size W0 wx) := fun wx hx => by
                  have g1 : W1.heap[bx]? = some (.cells #[.int .u32 (lh : Int), .int .u64 (lw : Int), .int .u32 (ll : Int), .int .u32 (lr : Int)] 71) := by rw [← hW1, ← hbx]; exact heap_newW _ _
                  have g2 : Below wr.heap.size wr W1 := by rw [← hW1]; exact (Below.refl _ _).alloc (Nat.le_refl _) _
                  have g3 := btrH' g2 hx
                  exact ⟨(hx.block _ (some_lt g1)).trans g1, HD6.out.keep g3, btrH' HB4.out g3⟩
                clear hW1 hl hl1 hl2 hl3 hlo hll hkk hlm
                go_upto_region 15 with fail
                rw [HW1.out]
                clear HW1 l0 l1 l2 l3 hbx
                have HS15 : Hid (∀ wx, Below W1.heap.size W1 wx → (fun w' => w'.cell? ⟨bx, 0, none⟩ = some (.int .u32 (lh : Int)) ∧ w'.cell? ⟨bx, 1, none⟩ = some (.int .u64 (lw : Int)) ∧ w'.cell? ⟨D, lh, none⟩ = some (.int .u64 kk) ∧ w'.cell? ⟨D, r, none⟩ = some (.int .u64 d) ∧ Hid (Below W1.heap.size W1 w')) wx) := fun wx hx => by
                  obtain ⟨g1, g2, g3⟩ := H1.out wx hx
                  obtain ⟨b0, b1, _, _⟩ := four_c20 g1
                  have a1 := g2.cell lh hlh
                  have a2 := g2.cell r h1
                  rw [HKK.out] at a1
                  rw [HVR.out] at a2
                  exact ⟨b0, b1, a1, a2, hx⟩
                refine wp_region_Z (z := 17) (S := (fun w' => w'.cell? ⟨bx, 0, none⟩ = some (.int .u32 (lh : Int)) ∧ w'.cell? ⟨bx, 1, none⟩ = some (.int .u64 (lw : Int)) ∧ w'.cell? ⟨D, lh, none⟩ = some (.int .u64 kk) ∧ w'.cell? ⟨D, r, none⟩ = some (.int .u64 d) ∧ Hid (Below W1.heap.size W1 w'))) (by kernel_rfl) (HS15.out _ (Below.refl _ _).drew) ?_
                refine wpAnyZ_take (i := 0) (oi := { dst := Option.some 55, op := Op.move (Operand.tmp 5), type := 80, pos := "ref.go:30", after := #[], guard := Option.none }) (oz := { dst := Option.none, op := Op.store 28 (Operand.tmp 71) (Operand.tmp 70), type := 0, pos := "ref.go:30", after := #[{ on := 16, ground := Ground.data }, { on := 15, ground := Ground.data }, { on := 0, ground := Ground.phase }, { on := 1, ground := Ground.phase }, { on := 2, ground := Ground.phase }, { on := 3, ground := Ground.phase }, { on := 4, ground := Ground.phase }, { on := 5, ground := Ground.phase }, { on := 6, ground := Ground.phase }, { on := 7, ground := Ground.phase }, { on := 8, ground := Ground.phase }, { on := 9, ground := Ground.phase }, { on := 10, ground := Ground.phase }, { on := 11, ground := Ground.phase }, { on := 12, ground := Ground.phase }, { on := 13, ground := Ground.phase }, { on := 14, ground := Ground.phase }, { on := 15, ground := Ground.phase }], guard := Option.none }) (v := ?va0) rfl rfl (by kernel_rfl) (by kernel_rfl) (by kernel_rfl) (by kernel_rfl) (by kernel_rfl) (fun _ _ _ h => h) (YieldsM.of_if (Or.inl ⟨by rfl, ?ha0⟩)) ?ra0
                case ha0 => ((intro wz hSw; (try dsimp only at hSw); go_simp); try (with_reducible rfl))
                try simp only [Act.put, List.setIfInBounds_toArray, List.set_cons_zero, List.set_cons_succ]
                refine wpAnyZ_take (i := 1) (oi := { dst := Option.some 56, op := Op.fieldAddr 71 (Operand.tmp 9) 0, type := 0, pos := "ref.go:30", after := #[], guard := Option.none }) (oz := { dst := Option.none, op := Op.store 28 (Operand.tmp 71) (Operand.tmp 70), type := 0, pos := "ref.go:30", after := #[{ on := 16, ground := Ground.data }, { on := 15, ground := Ground.data }, { on := 0, ground := Ground.phase }, { on := 1, ground := Ground.phase }, { on := 2, ground := Ground.phase }, { on := 3, ground := Ground.phase }, { on := 4, ground := Ground.phase }, { on := 5, ground := Ground.phase }, { on := 6, ground := Ground.phase }, { on := 7, ground := Ground.phase }, { on := 8, ground := Ground.phase }, { on := 9, ground := Ground.phase }, { on := 10, ground := Ground.phase }, { on := 11, ground := Ground.phase }, { on := 12, ground := Ground.phase }, { on := 13, ground := Ground.phase }, { on := 14, ground := Ground.phase }, { on := 15, ground := Ground.phase }], guard := Option.none }) (v := ?va1) rfl rfl (by kernel_rfl) (by kernel_rfl) (by kernel_rfl) (by kernel_rfl) (by kernel_rfl) (fun _ _ _ h => h) (YieldsM.of_if (Or.inl ⟨by rfl, ?ha1⟩)) ?ra1
                case ha1 => ((intro wz hSw; (try dsimp only at hSw); go_simp); try (with_reducible rfl))
                try simp only [Act.put, List.setIfInBounds_toArray, List.set_cons_zero, List.set_cons_succ]
                refine wpAnyZ_take (i := 2) (oi := { dst := Option.some 57, op := Op.load 69 (Operand.tmp 56), type := 69, pos := "ref.go:30", after := #[{ on := 1, ground := Ground.data }], guard := Option.none }) (oz := { dst := Option.none, op := Op.store 28 (Operand.tmp 71) (Operand.tmp 70), type := 0, pos := "ref.go:30", after := #[{ on := 16, ground := Ground.data }, { on := 15, ground := Ground.data }, { on := 0, ground := Ground.phase }, { on := 1, ground := Ground.phase }, { on := 2, ground := Ground.phase }, { on := 3, ground := Ground.phase }, { on := 4, ground := Ground.phase }, { on := 5, ground := Ground.phase }, { on := 6, ground := Ground.phase }, { on := 7, ground := Ground.phase }, { on := 8, ground := Ground.phase }, { on := 9, ground := Ground.phase }, { on := 10, ground := Ground.phase }, { on := 11, ground := Ground.phase }, { on := 12, ground := Ground.phase }, { on := 13, ground := Ground.phase }, { on := 14, ground := Ground.phase }, { on := 15, ground := Ground.phase }], guard := Option.none }) (v := ?va2) rfl rfl (by kernel_rfl) (by kernel_rfl) (by kernel_rfl) (by kernel_rfl) (by kernel_rfl) (fun _ _ _ h => h) (YieldsM.of_if (Or.inl ⟨by rfl, ?ha2⟩)) ?ra2
                case ha2 => ((intro wz hSw; (try dsimp only at hSw); go_simp); try (with_reducible rfl))
                try simp only [Act.put, List.setIfInBounds_toArray, List.set_cons_zero, List.set_cons_succ]
                refine wpAnyZ_take (i := 3) (oi := { dst := Option.some 58, op := Op.move (Operand.tmp 5), type := 80, pos := "ref.go:30", after := #[], guard := Option.none }) (oz := { dst := Option.none, op := Op.store 28 (Operand.tmp 71) (Operand.tmp 70), type := 0, pos := "ref.go:30", after := #[{ on := 16, ground := Ground.data }, { on := 15, ground := Ground.data }, { on := 0, ground := Ground.phase }, { on := 1, ground := Ground.phase }, { on := 2, ground := Ground.phase }, { on := 3, ground := Ground.phase }, { on := 4, ground := Ground.phase }, { on := 5, ground := Ground.phase }, { on := 6, ground := Ground.phase }, { on := 7, ground := Ground.phase }, { on := 8, ground := Ground.phase }, { on := 9, ground := Ground.phase }, { on := 10, ground := Ground.phase }, { on := 11, ground := Ground.phase }, { on := 12, ground := Ground.phase }, { on := 13, ground := Ground.phase }, { on := 14, ground := Ground.phase }, { on := 15, ground := Ground.phase }], guard := Option.none }) (v := ?va3) rfl rfl (by kernel_rfl) (by kernel_rfl) (by kernel_rfl) (by kernel_rfl) (by kernel_rfl) (fun _ _ _ h => h) (YieldsM.of_if (Or.inl ⟨by rfl, ?ha3⟩)) ?ra3
                case ha3 => ((intro wz hSw; (try dsimp only at hSw); go_simp); try (with_reducible rfl))
                try simp only [Act.put, List.setIfInBounds_toArray, List.set_cons_zero, List.set_cons_succ]
                refine wpAnyZ_take (i := 4) (oi := { dst := Option.some 59, op := Op.fieldAddr 71 (Operand.tmp 9) 0, type := 0, pos := "ref.go:30", after := #[], guard := Option.none }) (oz := { dst := Option.none, op := Op.store 28 (Operand.tmp 71) (Operand.tmp 70), type := 0, pos := "ref.go:30", after := #[{ on := 16, ground := Ground.data }, { on := 15, ground := Ground.data }, { on := 0, ground := Ground.phase }, { on := 1, ground := Ground.phase }, { on := 2, ground := Ground.phase }, { on := 3, ground := Ground.phase }, { on := 4, ground := Ground.phase }, { on := 5, ground := Ground.phase }, { on := 6, ground := Ground.phase }, { on := 7, ground := Ground.phase }, { on := 8, ground := Ground.phase }, { on := 9, ground := Ground.phase }, { on := 10, ground := Ground.phase }, { on := 11, ground := Ground.phase }, { on := 12, ground := Ground.phase }, { on := 13, ground := Ground.phase }, { on := 14, ground := Ground.phase }, { on := 15, ground := Ground.phase }], guard := Option.none }) (v := ?va4) rfl rfl (by kernel_rfl) (by kernel_rfl) (by kernel_rfl) (by kernel_rfl) (by kernel_rfl) (fun _ _ _ h => h) (YieldsM.of_if (Or.inl ⟨by rfl, ?ha4⟩)) ?ra4
                case ha4 => ((intro wz hSw; (try dsimp only at hSw); go_simp); try (with_reducible rfl))
                try simp only [Act.put, List.setIfInBounds_toArray, List.set_cons_zero, List.set_cons_succ]
                refine wpAnyZ_take (i := 5) (oi := { dst := Option.some 60, op := Op.load 69 (Operand.tmp 59), type := 69, pos := "ref.go:30", after := #[{ on := 4, ground := Ground.data }], guard := Option.none }) (oz := { dst := Option.none, op := Op.store 28 (Operand.tmp 71) (Operand.tmp 70), type := 0, pos := "ref.go:30", after := #[{ on := 16, ground := Ground.data }, { on := 15, ground := Ground.data }, { on := 0, ground := Ground.phase }, { on := 1, ground := Ground.phase }, { on := 2, ground := Ground.phase }, { on := 3, ground := Ground.phase }, { on := 4, ground := Ground.phase }, { on := 5, ground := Ground.phase }, { on := 6, ground := Ground.phase }, { on := 7, ground := Ground.phase }, { on := 8, ground := Ground.phase }, { on := 9, ground := Ground.phase }, { on := 10, ground := Ground.phase }, { on := 11, ground := Ground.phase }, { on := 12, ground := Ground.phase }, { on := 13, ground := Ground.phase }, { on := 14, ground := Ground.phase }, { on := 15, ground := Ground.phase }], guard := Option.none }) (v := ?va5) rfl rfl (by kernel_rfl) (by kernel_rfl) (by kernel_rfl) (by kernel_rfl) (by kernel_rfl) (fun _ _ _ h => h) (YieldsM.of_if (Or.inl ⟨by rfl, ?ha5⟩)) ?ra5
                case ha5 => ((intro wz hSw; (try dsimp only at hSw); go_simp); try (with_reducible rfl))
                try simp only [Act.put, List.setIfInBounds_toArray, List.set_cons_zero, List.set_cons_succ]
                refine wpAnyZ_take (i := 6) (oi := { dst := Option.some 61, op := Op.indexAddr 80 (Operand.tmp 58) (Operand.tmp 60), type := 0, pos := "ref.go:30", after := #[{ on := 3, ground := Ground.data }, { on := 5, ground := Ground.data }], guard := Option.none }) (oz := { dst := Option.none, op := Op.store 28 (Operand.tmp 71) (Operand.tmp 70), type := 0, pos := "ref.go:30", after := #[{ on := 16, ground := Ground.data }, { on := 15, ground := Ground.data }, { on := 0, ground := Ground.phase }, { on := 1, ground := Ground.phase }, { on := 2, ground := Ground.phase }, { on := 3, ground := Ground.phase }, { on := 4, ground := Ground.phase }, { on := 5, ground := Ground.phase }, { on := 6, ground := Ground.phase }, { on := 7, ground := Ground.phase }, { on := 8, ground := Ground.phase }, { on := 9, ground := Ground.phase }, { on := 10, ground := Ground.phase }, { on := 11, ground := Ground.phase }, { on := 12, ground := Ground.phase }, { on := 13, ground := Ground.phase }, { on := 14, ground := Ground.phase }, { on := 15, ground := Ground.phase }], guard := Option.none }) (v := ?va6) rfl rfl (by kernel_rfl) (by kernel_rfl) (by kernel_rfl) (by kernel_rfl) (by kernel_rfl) (fun _ _ _ h => h) (YieldsM.of_if (Or.inl ⟨by rfl, ?ha6⟩)) ?ra6
                case ha6 => ((intro wz hSw; (try dsimp only at hSw); go_simp); try (with_reducible rfl))
                try simp only [Act.put, List.setIfInBounds_toArray, List.set_cons_zero, List.set_cons_succ]
                refine wpAnyZ_take (i := 7) (oi := { dst := Option.some 62, op := Op.load 28 (Operand.tmp 61), type := 28, pos := "ref.go:30", after := #[{ on := 6, ground := Ground.data }], guard := Option.none }) (oz := { dst := Option.none, op := Op.store 28 (Operand.tmp 71) (Operand.tmp 70), type := 0, pos := "ref.go:30", after := #[{ on := 16, ground := Ground.data }, { on := 15, ground := Ground.data }, { on := 0, ground := Ground.phase }, { on := 1, ground := Ground.phase }, { on := 2, ground := Ground.phase }, { on := 3, ground := Ground.phase }, { on := 4, ground := Ground.phase }, { on := 5, ground := Ground.phase }, { on := 6, ground := Ground.phase }, { on := 7, ground := Ground.phase }, { on := 8, ground := Ground.phase }, { on := 9, ground := Ground.phase }, { on := 10, ground := Ground.phase }, { on := 11, ground := Ground.phase }, { on := 12, ground := Ground.phase }, { on := 13, ground := Ground.phase }, { on := 14, ground := Ground.phase }, { on := 15, ground := Ground.phase }], guard := Option.none }) (v := ?va7) rfl rfl (by kernel_rfl) (by kernel_rfl) (by kernel_rfl) (by kernel_rfl) (by kernel_rfl) (fun _ _ _ h => h) (YieldsM.of_if (Or.inl ⟨by rfl, ?ha7⟩)) ?ra7
                case ha7 => ((intro wz hSw; (try dsimp only at hSw); go_simp); try (with_reducible rfl))
                try simp only [Act.put, List.setIfInBounds_toArray, List.set_cons_zero, List.set_cons_succ]
                refine wpAnyZ_take (i := 8) (oi := { dst := Option.some 63, op := Op.move (Operand.tmp 5), type := 80, pos := "ref.go:30", after := #[], guard := Option.none }) (oz := { dst := Option.none, op := Op.store 28 (Operand.tmp 71) (Operand.tmp 70), type := 0, pos := "ref.go:30", after := #[{ on := 16, ground := Ground.data }, { on := 15, ground := Ground.data }, { on := 0, ground := Ground.phase }, { on := 1, ground := Ground.phase }, { on := 2, ground := Ground.phase }, { on := 3, ground := Ground.phase }, { on := 4, ground := Ground.phase }, { on := 5, ground := Ground.phase }, { on := 6, ground := Ground.phase }, { on := 7, ground := Ground.phase }, { on := 8, ground := Ground.phase }, { on := 9, ground := Ground.phase }, { on := 10, ground := Ground.phase }, { on := 11, ground := Ground.phase }, { on := 12, ground := Ground.phase }, { on := 13, ground := Ground.phase }, { on := 14, ground := Ground.phase }, { on := 15, ground := Ground.phase }], guard := Option.none }) (v := ?va8) rfl rfl (by kernel_rfl) (by kernel_rfl) (by kernel_rfl) (by kernel_rfl) (by kernel_rfl) (fun _ _ _ h => h) (YieldsM.of_if (Or.inl ⟨by rfl, ?ha8⟩)) ?ra8
                case ha8 => ((intro wz hSw; (try dsimp only at hSw); go_simp); try (with_reducible rfl))
                try simp only [Act.put, List.setIfInBounds_toArray, List.set_cons_zero, List.set_cons_succ]
                refine wpAnyZ_take (i := 9) (oi := { dst := Option.some 64, op := Op.move (Operand.tmp 7), type := 3, pos := "ref.go:30", after := #[], guard := Option.none }) (oz := { dst := Option.none, op := Op.store 28 (Operand.tmp 71) (Operand.tmp 70), type := 0, pos := "ref.go:30", after := #[{ on := 16, ground := Ground.data }, { on := 15, ground := Ground.data }, { on := 0, ground := Ground.phase }, { on := 1, ground := Ground.phase }, { on := 2, ground := Ground.phase }, { on := 3, ground := Ground.phase }, { on := 4, ground := Ground.phase }, { on := 5, ground := Ground.phase }, { on := 6, ground := Ground.phase }, { on := 7, ground := Ground.phase }, { on := 8, ground := Ground.phase }, { on := 9, ground := Ground.phase }, { on := 10, ground := Ground.phase }, { on := 11, ground := Ground.phase }, { on := 12, ground := Ground.phase }, { on := 13, ground := Ground.phase }, { on := 14, ground := Ground.phase }, { on := 15, ground := Ground.phase }], guard := Option.none }) (v := ?va9) rfl rfl (by kernel_rfl) (by kernel_rfl) (by kernel_rfl) (by kernel_rfl) (by kernel_rfl) (fun _ _ _ h => h) (YieldsM.of_if (Or.inl ⟨by rfl, ?ha9⟩)) ?ra9
                case ha9 => ((intro wz hSw; (try dsimp only at hSw); go_simp); try (with_reducible rfl))
                try simp only [Act.put, List.setIfInBounds_toArray, List.set_cons_zero, List.set_cons_succ]
                refine wpAnyZ_take (i := 10) (oi := { dst := Option.some 65, op := Op.indexAddr 80 (Operand.tmp 63) (Operand.tmp 64), type := 0, pos := "ref.go:30", after := #[{ on := 8, ground := Ground.data }, { on := 9, ground := Ground.data }], guard := Option.none }) (oz := { dst := Option.none, op := Op.store 28 (Operand.tmp 71) (Operand.tmp 70), type := 0, pos := "ref.go:30", after := #[{ on := 16, ground := Ground.data }, { on := 15, ground := Ground.data }, { on := 0, ground := Ground.phase }, { on := 1, ground := Ground.phase }, { on := 2, ground := Ground.phase }, { on := 3, ground := Ground.phase }, { on := 4, ground := Ground.phase }, { on := 5, ground := Ground.phase }, { on := 6, ground := Ground.phase }, { on := 7, ground := Ground.phase }, { on := 8, ground := Ground.phase }, { on := 9, ground := Ground.phase }, { on := 10, ground := Ground.phase }, { on := 11, ground := Ground.phase }, { on := 12, ground := Ground.phase }, { on := 13, ground := Ground.phase }, { on := 14, ground := Ground.phase }, { on := 15, ground := Ground.phase }], guard := Option.none }) (v := ?va10) rfl rfl (by kernel_rfl) (by kernel_rfl) (by kernel_rfl) (by kernel_rfl) (by kernel_rfl) (fun _ _ _ h => h) (YieldsM.of_if (Or.inl ⟨by rfl, ?ha10⟩)) ?ra10
                case ha10 => ((intro wz hSw; (try dsimp only at hSw); go_simp); try (with_reducible rfl))
                try simp only [Act.put, List.setIfInBounds_toArray, List.set_cons_zero, List.set_cons_succ]
                refine wpAnyZ_take (i := 11) (oi := { dst := Option.some 66, op := Op.load 28 (Operand.tmp 65), type := 28, pos := "ref.go:30", after := #[{ on := 10, ground := Ground.data }], guard := Option.none }) (oz := { dst := Option.none, op := Op.store 28 (Operand.tmp 71) (Operand.tmp 70), type := 0, pos := "ref.go:30", after := #[{ on := 16, ground := Ground.data }, { on := 15, ground := Ground.data }, { on := 0, ground := Ground.phase }, { on := 1, ground := Ground.phase }, { on := 2, ground := Ground.phase }, { on := 3, ground := Ground.phase }, { on := 4, ground := Ground.phase }, { on := 5, ground := Ground.phase }, { on := 6, ground := Ground.phase }, { on := 7, ground := Ground.phase }, { on := 8, ground := Ground.phase }, { on := 9, ground := Ground.phase }, { on := 10, ground := Ground.phase }, { on := 11, ground := Ground.phase }, { on := 12, ground := Ground.phase }, { on := 13, ground := Ground.phase }, { on := 14, ground := Ground.phase }, { on := 15, ground := Ground.phase }], guard := Option.none }) (v := ?va11) rfl rfl (by kernel_rfl) (by kernel_rfl) (by kernel_rfl) (by kernel_rfl) (by kernel_rfl) (fun _ _ _ h => h) (YieldsM.of_if (Or.inl ⟨by rfl, ?ha11⟩)) ?ra11
                case ha11 => ((intro wz hSw; (try dsimp only at hSw); go_simp); try (with_reducible rfl))
                try simp only [Act.put, List.setIfInBounds_toArray, List.set_cons_zero, List.set_cons_succ]
                refine wpAnyZ_take (i := 12) (oi := { dst := Option.some 67, op := Op.fieldAddr 71 (Operand.tmp 9) 1, type := 0, pos := "ref.go:30", after := #[], guard := Option.none }) (oz := { dst := Option.none, op := Op.store 28 (Operand.tmp 71) (Operand.tmp 70), type := 0, pos := "ref.go:30", after := #[{ on := 16, ground := Ground.data }, { on := 15, ground := Ground.data }, { on := 0, ground := Ground.phase }, { on := 1, ground := Ground.phase }, { on := 2, ground := Ground.phase }, { on := 3, ground := Ground.phase }, { on := 4, ground := Ground.phase }, { on := 5, ground := Ground.phase }, { on := 6, ground := Ground.phase }, { on := 7, ground := Ground.phase }, { on := 8, ground := Ground.phase }, { on := 9, ground := Ground.phase }, { on := 10, ground := Ground.phase }, { on := 11, ground := Ground.phase }, { on := 12, ground := Ground.phase }, { on := 13, ground := Ground.phase }, { on := 14, ground := Ground.phase }, { on := 15, ground := Ground.phase }], guard := Option.none }) (v := ?va12) rfl rfl (by kernel_rfl) (by kernel_rfl) (by kernel_rfl) (by kernel_rfl) (by kernel_rfl) (fun _ _ _ h => h) (YieldsM.of_if (Or.inl ⟨by rfl, ?ha12⟩)) ?ra12
                case ha12 => ((intro wz hSw; (try dsimp only at hSw); go_simp); try (with_reducible rfl))
                try simp only [Act.put, List.setIfInBounds_toArray, List.set_cons_zero, List.set_cons_succ]
                refine wpAnyZ_take (i := 13) (oi := { dst := Option.some 68, op := Op.load 28 (Operand.tmp 67), type := 28, pos := "ref.go:30", after := #[{ on := 12, ground := Ground.data }], guard := Option.none }) (oz := { dst := Option.none, op := Op.store 28 (Operand.tmp 71) (Operand.tmp 70), type := 0, pos := "ref.go:30", after := #[{ on := 16, ground := Ground.data }, { on := 15, ground := Ground.data }, { on := 0, ground := Ground.phase }, { on := 1, ground := Ground.phase }, { on := 2, ground := Ground.phase }, { on := 3, ground := Ground.phase }, { on := 4, ground := Ground.phase }, { on := 5, ground := Ground.phase }, { on := 6, ground := Ground.phase }, { on := 7, ground := Ground.phase }, { on := 8, ground := Ground.phase }, { on := 9, ground := Ground.phase }, { on := 10, ground := Ground.phase }, { on := 11, ground := Ground.phase }, { on := 12, ground := Ground.phase }, { on := 13, ground := Ground.phase }, { on := 14, ground := Ground.phase }, { on := 15, ground := Ground.phase }], guard := Option.none }) (v := ?va13) rfl rfl (by kernel_rfl) (by kernel_rfl) (by kernel_rfl) (by kernel_rfl) (by kernel_rfl) (fun _ _ _ h => h) (YieldsM.of_if (Or.inl ⟨by rfl, ?ha13⟩)) ?ra13
                case ha13 => ((intro wz hSw; (try dsimp only at hSw); go_simp); try (with_reducible rfl))
                try simp only [Act.put, List.setIfInBounds_toArray, List.set_cons_zero, List.set_cons_succ]
                refine wpAnyZ_take (i := 14) (oi := { dst := Option.some 69, op := Op.binOp BinOp.add 28 (Operand.tmp 66) (Operand.tmp 68) 28, type := 28, pos := "ref.go:30", after := #[{ on := 11, ground := Ground.data }, { on := 13, ground := Ground.data }], guard := Option.none }) (oz := { dst := Option.none, op := Op.store 28 (Operand.tmp 71) (Operand.tmp 70), type := 0, pos := "ref.go:30", after := #[{ on := 16, ground := Ground.data }, { on := 15, ground := Ground.data }, { on := 0, ground := Ground.phase }, { on := 1, ground := Ground.phase }, { on := 2, ground := Ground.phase }, { on := 3, ground := Ground.phase }, { on := 4, ground := Ground.phase }, { on := 5, ground := Ground.phase }, { on := 6, ground := Ground.phase }, { on := 7, ground := Ground.phase }, { on := 8, ground := Ground.phase }, { on := 9, ground := Ground.phase }, { on := 10, ground := Ground.phase }, { on := 11, ground := Ground.phase }, { on := 12, ground := Ground.phase }, { on := 13, ground := Ground.phase }, { on := 14, ground := Ground.phase }, { on := 15, ground := Ground.phase }], guard := Option.none }) (v := ?va14) rfl rfl (by kernel_rfl) (by kernel_rfl) (by kernel_rfl) (by kernel_rfl) (by kernel_rfl) (fun _ _ _ h => h) (YieldsM.of_if (Or.inl ⟨by rfl, ?ha14⟩)) ?ra14
                case ha14 => ((intro wz hSw; (try dsimp only at hSw); go_simp); try (with_reducible rfl))
                try simp only [Act.put, List.setIfInBounds_toArray, List.set_cons_zero, List.set_cons_succ]
                refine wpAnyZ_take (i := 15) (oi := { dst := Option.some 70, op := Op.call { callee := Callee.builtin Builtin.min, args := #[Operand.tmp 62, Operand.tmp 69], argTypes := #[28, 28] }, type := 28, pos := "ref.go:30", after := #[{ on := 7, ground := Ground.data }, { on := 14, ground := Ground.data }], guard := Option.none }) (oz := { dst := Option.none, op := Op.store 28 (Operand.tmp 71) (Operand.tmp 70), type := 0, pos := "ref.go:30", after := #[{ on := 16, ground := Ground.data }, { on := 15, ground := Ground.data }, { on := 0, ground := Ground.phase }, { on := 1, ground := Ground.phase }, { on := 2, ground := Ground.phase }, { on := 3, ground := Ground.phase }, { on := 4, ground := Ground.phase }, { on := 5, ground := Ground.phase }, { on := 6, ground := Ground.phase }, { on := 7, ground := Ground.phase }, { on := 8, ground := Ground.phase }, { on := 9, ground := Ground.phase }, { on := 10, ground := Ground.phase }, { on := 11, ground := Ground.phase }, { on := 12, ground := Ground.phase }, { on := 13, ground := Ground.phase }, { on := 14, ground := Ground.phase }, { on := 15, ground := Ground.phase }], guard := Option.none }) (v := ?va15) rfl rfl (by kernel_rfl) (by kernel_rfl) (by kernel_rfl) (by kernel_rfl) (by kernel_rfl) (fun _ _ _ h => h) (YieldsM.of_if (Or.inl ⟨by rfl, ?ha15⟩)) ?ra15
                case ha15 => ((intro wz hSw; (try dsimp only at hSw); go_simp); try (with_reducible rfl))
                try simp only [Act.put, List.setIfInBounds_toArray, List.set_cons_zero, List.set_cons_succ]
                refine wpAnyZ_take (i := 16) (oi := { dst := Option.some 71, op := Op.indexAddr 80 (Operand.tmp 55) (Operand.tmp 57), type := 0, pos := "ref.go:30", after := #[{ on := 0, ground := Ground.data }, { on := 2, ground := Ground.data }, { on := 0, ground := Ground.phase }, { on := 1, ground := Ground.phase }, { on := 2, ground := Ground.phase }, { on := 3, ground := Ground.phase }, { on := 4, ground := Ground.phase }, { on := 5, ground := Ground.phase }, { on := 6, ground := Ground.phase }, { on := 7, ground := Ground.phase }, { on := 8, ground := Ground.phase }, { on := 9, ground := Ground.phase }, { on := 10, ground := Ground.phase }, { on := 11, ground := Ground.phase }, { on := 12, ground := Ground.phase }, { on := 13, ground := Ground.phase }, { on := 14, ground := Ground.phase }, { on := 15, ground := Ground.phase }], guard := Option.none }) (oz := { dst := Option.none, op := Op.store 28 (Operand.tmp 71) (Operand.tmp 70), type := 0, pos := "ref.go:30", after := #[{ on := 16, ground := Ground.data }, { on := 15, ground := Ground.data }, { on := 0, ground := Ground.phase }, { on := 1, ground := Ground.phase }, { on := 2, ground := Ground.phase }, { on := 3, ground := Ground.phase }, { on := 4, ground := Ground.phase }, { on := 5, ground := Ground.phase }, { on := 6, ground := Ground.phase }, { on := 7, ground := Ground.phase }, { on := 8, ground := Ground.phase }, { on := 9, ground := Ground.phase }, { on := 10, ground := Ground.phase }, { on := 11, ground := Ground.phase }, { on := 12, ground := Ground.phase }, { on := 13, ground := Ground.phase }, { on := 14, ground := Ground.phase }, { on := 15, ground := Ground.phase }], guard := Option.none }) (v := ?va16) rfl rfl (by kernel_rfl) (by kernel_rfl) (by kernel_rfl) (by kernel_rfl) (by kernel_rfl) (fun _ _ _ h => h) (YieldsM.of_if (Or.inl ⟨by rfl, ?ha16⟩)) ?ra16
                case ha16 => ((intro wz hSw; (try dsimp only at hSw); go_simp); try (with_reducible rfl))
                try simp only [Act.put, List.setIfInBounds_toArray, List.set_cons_zero, List.set_cons_succ]
                refine lastZ (o := { dst := Option.none, op := Op.store 28 (Operand.tmp 71) (Operand.tmp 70), type := 0, pos := "ref.go:30", after := #[{ on := 16, ground := Ground.data }, { on := 15, ground := Ground.data }, { on := 0, ground := Ground.phase }, { on := 1, ground := Ground.phase }, { on := 2, ground := Ground.phase }, { on := 3, ground := Ground.phase }, { on := 4, ground := Ground.phase }, { on := 5, ground := Ground.phase }, { on := 6, ground := Ground.phase }, { on := 7, ground := Ground.phase }, { on := 8, ground := Ground.phase }, { on := 9, ground := Ground.phase }, { on := 10, ground := Ground.phase }, { on := 11, ground := Ground.phase }, { on := 12, ground := Ground.phase }, { on := 13, ground := Ground.phase }, { on := 14, ground := Ground.phase }, { on := 15, ground := Ground.phase }], guard := Option.none }) rfl (by kernel_rfl) (by kernel_rfl) ?_
                intro v7 hg7 hS7 K hK
                obtain ⟨g1, g2, g3⟩ := H1.out v7 (btrH' (Below.refl _ _).drew hg7)
                have a1 := g2.cell lh hlh
                have f1 := g2.free lh
                rw [HKK.out] at a1
                have HF7 : Hid (RAt u64v (v7.setCell ⟨D, lh, none⟩ (.int .u64 (if d + (lw : Int) < kk then d + (lw : Int) else kk))) D h.node.length (dv (relaxs d ((rowL h.upF h.up r).take (t + 1)) vs)) ∧ Below W0.heap.size W0 (v7.setCell ⟨D, lh, none⟩ (.int .u64 (if d + (lw : Int) < kk then d + (lw : Int) else kk)))) := ⟨(g2.set (if d + (lw : Int) < kk then d + (lw : Int) else kk) hlh).eq (fun j _ => (HST.out j).symm), g3.setCell (p := ⟨D, lh, none⟩) HDW.out.1 _⟩
                clear g1 g2 g3 hS7 hg7
                go_simp
                refine hK.out _ _ ?_
                clear a1 f1 hK K
                go_wp2
                go_roundw
                case rel => exact ⟨t + 1, by omega, by go_num, HF7.out.1, HF7.out.2⟩
                case measure => simp [intOf]; omega
              · have q8 : decide ((t : Int) < (T : Int)) = false := by simp; omega
                have q8n : decide (t < T) = false := by simp; omega
                have HD9 : Hid (RAt u64v wr D h.node.length (dv (relaxs d (rowL h.upF h.up r) vs))) := HD6.out.eq (fun j _ => by rw [h2, ← HTL.out, List.take_length])
                have HM2 : Hid (Mid (rowL h.upF h.up) h.node.length s (r + 1) (relaxs d (rowL h.upF h.up r) vs)) := HM.out.hit h1 HHD.out (HROW.out r h1)
                clear h2 ht HD6
                go_wp2
                go_roundw
                case rel => exact ⟨r + 1, _, by omega, by go_num, HM2.out, HD9.out, HB4.out⟩
                case measure => simp [intOf]; omega
          · have hvn : ∀ d, vs[r]? ≠ some (some d) := fun d hd => by rw [hnone] at hd; cases hd
            have cdr := HD5.out.cell r h1
            rw [dv_none hvn] at cdr
            have cdr' : WR.cell? ⟨D, r, none⟩ = some (.int .u64 18446744073709551615) := cdr
            have HM2 : Hid (Mid (rowL h.upF h.up) h.node.length s (r + 1) vs) := HM.out.miss h1 hvn
            clear cdr hnone hvn
            go_wp2
            go_roundw
            case rel => exact ⟨r + 1, vs, by omega, by go_num, HM2.out, HD5.out, HB5.out⟩
            case measure => simp [intOf]; omega
        · have q6 : decide ((r : Int) < (h.node.length : Int)) = false := by simp; omega
          have q6n : decide (r < h.node.length) = false := by simp; omega
          have HE : Hid (vs = lens (rowL h.upF h.up) h.node.length s) := by
            have g := HM.out
            rw [h1] at g
            exact g.fin
          clear h1 hr
          go_wp2
          go_ret
          exact ⟨D, rfl, by rw [← HE.out]; exact HD5.out, HDW.out.2, (HQ.out wr HB5.out).2.2⟩

theorem dists_calls (v : HV) (h : Hr) (s : Nat) (w : World) (hH : HasH w v h) (hc : chk h = (0, [])) (hs : s < h.node.length) :
    Calls Tryz.prog 32 #[hvl v h, .int .i64 (s : Int)] w fun e w' => ∃ D, e = .returned (.slice (some ⟨D, 0, none⟩) h.node.length h.node.length) ∧ RAt u64v w' D h.node.length (dv (lens (rowL h.upF h.up) h.node.length s)) ∧ w.heap.size ≤ D ∧ Below w.heap.size w w' :=
  dists_aux v.no v.uo v.ul v.wo v.dl v.nc v.uc v.ulc v.wc v.dlc h s w hH hc hs
end Go.Proofs.YthcdkokgfnidiaaGreatDoor.Cb

namespace Go.Proofs.YthcdkokgfnidiaaGreatDoor.Qy
open Go.RowKit Go.Extern Go.Shelf Hi Cb

attribute [local go_sem] Oper.semAt_some

theorem reach_ofc {h : Hr} (hc : chk h = (0, [])) : Hi.Reach h := by
  obtain ⟨k1, k2, k3, k4, _⟩ := chk_ok hc
  constructor <;> omega
set_option maxRecDepth 100000 in
set_option maxHeartbeats 4000000 in
theorem rank_aux (no uo ul wo dl : Option Addr) (nc uc ulc wc dlc : Nat) (h : Hr) (s : Nat) (w : World) (hH : HasH w ⟨no, uo, ul, wo, dl, nc, uc, ulc, wc, dlc⟩ h) (hc : chk h = (0, [])) (hs : s < h.node.length) :
    Calls Tryz.prog 33 #[hvl ⟨no, uo, ul, wo, dl, nc, uc, ulc, wc, dlc⟩ h, .int .i64 (s : Int)] w fun e w' => e = .returned (.int .i64 (rankOf h s : Int)) ∧ Below w.heap.size w w' := by
  obtain ⟨k1, k2, k3, k4, k5, k6, k7, k8⟩ := chk_ok hc
  have HRK : Hid ((∃ r, r < h.node.length ∧ nth h.node r = s) ∧ ∀ r, r < h.node.length → nth h.node r = s → rankOf h s = r) := ⟨node_has k7 hs, fun r hr e => by rw [← e]; exact rank_of hc hr⟩
  obtain ⟨z, hz⟩ : ∃ z, w.heap.size = z := ⟨_, rfl⟩
  obtain ⟨W0, hW0⟩ : ∃ W0, w.alloc (.cells #[.slice no h.node.length nc, .slice uo h.upF.length uc, .slice ul h.up.length ulc, .slice wo h.dnF.length wc, .slice dl h.dn.length dlc] 25) = W0 := ⟨_, rfl⟩
  have HQ : Hid (∀ wx, Below W0.heap.size W0 wx → (wx.cell? ⟨z, 0, none⟩ = some (.slice no h.node.length nc) ∧ wx.cell? ⟨z, 1, none⟩ = some (.slice uo h.upF.length uc) ∧ wx.cell? ⟨z, 2, none⟩ = some (.slice ul h.up.length ulc) ∧ wx.cell? ⟨z, 3, none⟩ = some (.slice wo h.dnF.length wc) ∧ wx.cell? ⟨z, 4, none⟩ = some (.slice dl h.dn.length dlc)) ∧ HasH wx ⟨no, uo, ul, wo, dl, nc, uc, ulc, wc, dlc⟩ h ∧ Below w.heap.size w wx) := fun wx hx => by
    have h1 : W0.heap[z]? = some (.cells #[.slice no h.node.length nc, .slice uo h.upF.length uc, .slice ul h.up.length ulc, .slice wo h.dnF.length wc, .slice dl h.dn.length dlc] 25) := by rw [← hW0, ← hz]; exact heap_newW _ _
    have h2 : Below w.heap.size w W0 := by rw [← hW0]; exact (Below.refl _ _).alloc (Nat.le_refl _) _
    have h3 := btrH' h2 hx
    exact ⟨five_cells ((hx.block _ (some_lt h1)).trans h1), hH.keep h3, h3⟩
  have HW0 : Hid (w.alloc (.cells #[.slice no h.node.length nc, .slice uo h.upF.length uc, .slice ul h.up.length ulc, .slice wo h.dnF.length wc, .slice dl h.dn.length dlc] 25) = W0) := hW0
  clear hW0 hH hc k2 k3 k4 k5 k6 k7 k8
  unfold hvl
  simp only
  obtain ⟨c0, c1, c2, c3, c4⟩ := (HQ.out W0 (Below.refl _ _)).1
  have hnd0 := (HQ.out W0 (Below.refl _ _)).2.1.node
  obtain ⟨nb, noff, e1, _, _⟩ := hnd0.cells (by omega)
  have HN : Hid (∀ wx, Below W0.heap.size W0 wx → ∀ k, k < h.node.length → wx.cell? ⟨nb, noff + k, none⟩ = some (.int .u32 (nth h.node k : Int))) := fun wx hx k hk => by
    obtain ⟨nb', noff', e2, _, hc⟩ := (HQ.out wx hx).2.1.node.cells (by omega)
    have e3 := e1.symm.trans e2
    cases e3
    exact hc k hk
  have HSM : Hid (∀ k, nth h.node k < 4294967296) := fun k => hnd0.small k
  clear hnd0
  subst e1
  go_enter Tryz.func33, Tryz.ntmps33
  go_upto_region 1 with fail
  rw [HW0.out]
  clear HW0 hz
  go_wp2_with fail
  go_loopw [10] (fun iv wr => ∃ k : Nat, k ≤ h.node.length ∧ iv = .int .i64 k ∧ Hid (∀ j, j < k → nth h.node j ≠ s) ∧ Hid (Below W0.heap.size W0 wr)) (fun iv _ => h.node.length - (intOf iv).toNat)
  case atStart => exact ⟨0, Nat.zero_le _, rfl, fun j hj => by omega, Below.refl _ _⟩
  case round =>
    obtain ⟨k, hk, rfl, HNO, HB⟩ := hrel
    rcases Nat.lt_or_eq_of_le hk with h1 | h1
    · have ck := HN.out wr HB.out k h1
      have hsm := HSM.out k
      obtain ⟨x, hx⟩ : ∃ x, nth h.node k = x := ⟨_, rfl⟩
      rw [hx] at ck hsm
      have HX : Hid (nth h.node k = x) := hx
      clear hx
      have i2 : (0 : Int) ≤ (k : Int) := by omega
      have i3 : (k : Int) < (h.node.length : Int) := by omega
      have i8 : IntKind.i64.wrap (x : Int) = (x : Int) := by rw [IntKind.wrap_i64]; omega
      have q6 : decide ((k : Int) < (h.node.length : Int)) = true := by simp; omega
      have q6n : decide (k < h.node.length) = true := by simp; omega
      by_cases hxs : x = s
      · have e1 : ((x : Int) == (s : Int)) = true := by simp; omega
        have HR : Hid (rankOf h s = k) := HRK.out.2 k h1 (by rw [HX.out]; exact hxs)
        clear hxs
        go_wp2
        go_ret
        exact ⟨by rw [HR.out]; rfl, (HQ.out wr HB.out).2.2⟩
      · have e1 : ((x : Int) == (s : Int)) = false := by simp; omega
        have HNO2 : Hid (∀ j, j < k + 1 → nth h.node j ≠ s) := fun j hj e => by
          by_cases g : j = k
          · subst g; exact hxs (by rw [← HX.out]; exact e)
          · exact HNO.out j (by omega) e
        clear hxs
        go_wp2
        go_roundw
        case rel => exact ⟨k + 1, by omega, by go_num, HNO2.out, HB.out⟩
        case measure => simp [intOf]; omega
    · exfalso
      obtain ⟨r, hr, e⟩ := HRK.out.1
      exact HNO.out r (by omega) e
theorem rank_calls (v : HV) (h : Hr) (s : Nat) (w : World) (hH : HasH w v h) (hc : chk h = (0, [])) (hs : s < h.node.length) :
    Calls Tryz.prog 33 #[hvl v h, .int .i64 (s : Int)] w fun e w' => e = .returned (.int .i64 (rankOf h s : Int)) ∧ Below w.heap.size w w' :=
  rank_aux v.no v.uo v.ul v.wo v.dl v.nc v.uc v.ulc v.wc v.dlc h s w hH hc hs
/-- the error of two nodes. -/
def nErr (n : Nat) (s t : Int) : Int × List (Int × Int) := if ¬ (0 ≤ s ∧ s < (n : Int)) then (7, [(3, 0)]) else if ¬ (0 ≤ t ∧ t < (n : Int)) then (7, [(3, 1)]) else (0, [])
theorem nErr_s {n : Nat} {s t : Int} (g : ¬ (0 ≤ s ∧ s < (n : Int))) : nErr n s t = (7, [(3, 0)]) := by unfold nErr; rw [if_pos g]
theorem nErr_t {n : Nat} {s t : Int} (g1 : 0 ≤ s ∧ s < (n : Int)) (g : ¬ (0 ≤ t ∧ t < (n : Int))) : nErr n s t = (7, [(3, 1)]) := by unfold nErr; rw [if_neg (fun q => q g1), if_pos g]
theorem nErr_no {n : Nat} {s t : Int} (g1 : 0 ≤ s ∧ s < (n : Int)) (g : 0 ≤ t ∧ t < (n : Int)) : nErr n s t = (0, []) := by unfold nErr; rw [if_neg (fun q => q g1), if_neg (fun q => q g)]
theorem nodes_res {W : World} {z : Nat} {x0 x1 : Value} {tmps : Array Value} (h1 : W.heap[z]? = some (.cells #[x0, x1] 31)) (t2 : tmps[6]?.getD undef = .pointer (some ⟨z, 0, none⟩)) :
    (results Tryz.f17 tmps).run Tryz.prog W = .ok (.agg #[x0, x1]) W := by
  have c0 : W.cell? ⟨z, 0, none⟩ = some x0 := by simp [World.cell?, h1]
  have c1 : W.cell? ⟨z, 1, none⟩ = some x1 := by simp [World.cell?, h1]
  simp [results, Tryz.results17, go_sem, t2, c0, c1]

set_option maxRecDepth 100000 in
set_option maxHeartbeats 4000000 in
theorem nodes_aux (no uo ul wo dl : Option Addr) (nc uc ulc wc dlc : Nat) (h : Hr) (s t : Int) (w : World) (hH : HasH w ⟨no, uo, ul, wo, dl, nc, uc, ulc, wc, dlc⟩ h) :
    Calls Tryz.prog 17 #[hvl ⟨no, uo, ul, wo, dl, nc, uc, ulc, wc, dlc⟩ h, .int .i64 s, .int .i64 t] w fun e w' => RA w (nErr h.node.length s t) e w' := by
  obtain ⟨z, hz⟩ : ∃ z, w.heap.size = z := ⟨_, rfl⟩
  obtain ⟨W0, hW0⟩ : ∃ W0, (w.alloc (.cells #[.slice no h.node.length nc, .slice uo h.upF.length uc, .slice ul h.up.length ulc, .slice wo h.dnF.length wc, .slice dl h.dn.length dlc] 25)).alloc (.cells #[.int .i64 0, .slice none 0 0] 31) = W0 := ⟨_, rfl⟩
  have hB0 : Below w.heap.size w W0 := by rw [← hW0]; exact ((Below.refl _ w).alloc (Nat.le_refl _) _).alloc (by simp) _
  have h0 : W0.heap[z]? = some (.cells #[.slice no h.node.length nc, .slice uo h.upF.length uc, .slice ul h.up.length ulc, .slice wo h.dnF.length wc, .slice dl h.dn.length dlc] 25) := by
    rw [← hW0, ← hz]; exact (Below.heap_alloc _ _ _ (by simp)).trans (heap_newW _ _)
  have h1 : W0.heap[z + 1]? = some (.cells #[.int .i64 0, .slice none 0 0] 31) := by
    have g := heap_newW (w.alloc (.cells #[.slice no h.node.length nc, .slice uo h.upF.length uc, .slice ul h.up.length ulc, .slice wo h.dnF.length wc, .slice dl h.dn.length dlc] 25)) (.cells #[.int .i64 0, .slice none 0 0] 31)
    rw [World.size_alloc, hW0, hz] at g
    exact g
  have HS0 : Hid (z + 1 < W0.heap.size) := some_lt h1
  have HQ : Hid (∀ wx, Below W0.heap.size W0 wx → wx.heap[z]? = some (.cells #[.slice no h.node.length nc, .slice uo h.upF.length uc, .slice ul h.up.length ulc, .slice wo h.dnF.length wc, .slice dl h.dn.length dlc] 25) ∧ wx.heap[z + 1]? = some (.cells #[.int .i64 0, .slice none 0 0] 31) ∧ HasH wx ⟨no, uo, ul, wo, dl, nc, uc, ulc, wc, dlc⟩ h ∧ Below w.heap.size w wx) := fun wx hx => by
    have g := hB0.trans (hx.mono hB0.size)
    exact ⟨(hx.block _ (some_lt h0)).trans h0, (hx.block _ (some_lt h1)).trans h1, hH.keep g, g⟩
  have HSZ : Hid (∀ (wx : World) (x y : Value), Below w.heap.size w wx → Below w.heap.size w ((wx.setCell ⟨z + 1, 0, none⟩ x).setCell ⟨z + 1, 1, none⟩ y)) := fun wx x y hx => (hx.setCell (p := ⟨z + 1, 0, none⟩) (by show w.heap.size ≤ z + 1; omega) _).setCell (p := ⟨z + 1, 1, none⟩) (by show w.heap.size ≤ z + 1; omega) _
  have HW0 : Hid ((w.alloc (.cells #[.slice no h.node.length nc, .slice uo h.upF.length uc, .slice ul h.up.length ulc, .slice wo h.dnF.length wc, .slice dl h.dn.length dlc] 25)).alloc (.cells #[.int .i64 0, .slice none 0 0] 31) = W0) := hW0
  have HB0 : Hid (Below W0.heap.size W0 W0) := Below.refl _ _
  clear hW0 h0 h1 hB0 hH
  unfold hvl
  simp only
  obtain ⟨c0, c1, c2, c3, c4⟩ := five_cells (HQ.out W0 HB0.out).1
  go_enter Tryz.func17, Tryz.ntmps17
  go_upto_region 1 with fail
  rw [HW0.out]
  clear HW0 hz
  by_cases a1 : s < 0
  · have HER : Hid (nErr h.node.length s t = (7, [(3, 0)])) := nErr_s (by omega)
    have i1 : decide (s < 0) = true := by simpa using a1
    clear a1
    go_wp2_with fail
    refine (E_calls 7 W0).mono ?_
    rintro e y1 ⟨rfl, hy1⟩
    have HY1 : Hid (Below W0.heap.size W0 y1) := hy1
    clear hy1
    go_wp2_with fail
    refine (refAt_calls 3 (0 : Int) 7 y1).mono ?_
    rintro e y2 ⟨g, rfl, hg, hy2⟩
    have HY2 : Hid (Below W0.heap.size W0 y2) := btrH' HY1.out hy2
    have HG : Hid (HasPlaces y2 (.slice (some ⟨g, 0, none⟩) 1 1) [(3, (0 : Int))]) := pl_one hg
    clear hy2 hg
    obtain ⟨d0, d1', f0, f1⟩ := cell_two (HQ.out y2 HY2.out).2.1
    go_wp2
    exact bodyPost_ret (nodes_res (set_err (HQ.out y2 HY2.out).2.1 _ _) rfl) rfl (by rw [HER.out]; exact ⟨some ⟨g, 0, none⟩, 1, rfl, pl_sets (F := (7, [(3, (0 : Int))])) (HQ.out y2 HY2.out).2.1 HG.out _ _, HSZ.out _ _ _ (HQ.out y2 HY2.out).2.2.2⟩)
  have i1 : decide (s < 0) = false := by simpa using a1
  by_cases a2 : (h.node.length : Int) ≤ s
  · have HER : Hid (nErr h.node.length s t = (7, [(3, 0)])) := nErr_s (by omega)
    have i2 : decide (s ≥ (h.node.length : Int)) = true := by simpa using a2
    have i3 : decide ((h.node.length : Int) ≤ s) = true := by simpa using a2
    clear a1 a2
    go_wp2_with fail
    refine (E_calls 7 W0).mono ?_
    rintro e y1 ⟨rfl, hy1⟩
    have HY1 : Hid (Below W0.heap.size W0 y1) := hy1
    clear hy1
    go_wp2_with fail
    refine (refAt_calls 3 (0 : Int) 7 y1).mono ?_
    rintro e y2 ⟨g, rfl, hg, hy2⟩
    have HY2 : Hid (Below W0.heap.size W0 y2) := btrH' HY1.out hy2
    have HG : Hid (HasPlaces y2 (.slice (some ⟨g, 0, none⟩) 1 1) [(3, (0 : Int))]) := pl_one hg
    clear hy2 hg
    obtain ⟨d0, d1', f0, f1⟩ := cell_two (HQ.out y2 HY2.out).2.1
    go_wp2
    exact bodyPost_ret (nodes_res (set_err (HQ.out y2 HY2.out).2.1 _ _) rfl) rfl (by rw [HER.out]; exact ⟨some ⟨g, 0, none⟩, 1, rfl, pl_sets (F := (7, [(3, (0 : Int))])) (HQ.out y2 HY2.out).2.1 HG.out _ _, HSZ.out _ _ _ (HQ.out y2 HY2.out).2.2.2⟩)
  have i2 : decide (s ≥ (h.node.length : Int)) = false := by simpa using a2
  have i3 : decide ((h.node.length : Int) ≤ s) = false := by simpa using a2
  by_cases b1 : t < 0
  · have HER : Hid (nErr h.node.length s t = (7, [(3, 1)])) := nErr_t (by omega) (by omega)
    have j1 : decide (t < 0) = true := by simpa using b1
    clear a1 a2 b1
    go_wp2_with fail
    refine (E_calls 7 W0).mono ?_
    rintro e y1 ⟨rfl, hy1⟩
    have HY1 : Hid (Below W0.heap.size W0 y1) := hy1
    clear hy1
    go_wp2_with fail
    refine (refAt_calls 3 (1 : Int) 7 y1).mono ?_
    rintro e y2 ⟨g, rfl, hg, hy2⟩
    have HY2 : Hid (Below W0.heap.size W0 y2) := btrH' HY1.out hy2
    have HG : Hid (HasPlaces y2 (.slice (some ⟨g, 0, none⟩) 1 1) [(3, (1 : Int))]) := pl_one hg
    clear hy2 hg
    obtain ⟨d0, d1', f0, f1⟩ := cell_two (HQ.out y2 HY2.out).2.1
    go_wp2
    exact bodyPost_ret (nodes_res (set_err (HQ.out y2 HY2.out).2.1 _ _) rfl) rfl (by rw [HER.out]; exact ⟨some ⟨g, 0, none⟩, 1, rfl, pl_sets (F := (7, [(3, (1 : Int))])) (HQ.out y2 HY2.out).2.1 HG.out _ _, HSZ.out _ _ _ (HQ.out y2 HY2.out).2.2.2⟩)
  have j1 : decide (t < 0) = false := by simpa using b1
  by_cases b2 : (h.node.length : Int) ≤ t
  · have HER : Hid (nErr h.node.length s t = (7, [(3, 1)])) := nErr_t (by omega) (by omega)
    have j2 : decide (t ≥ (h.node.length : Int)) = true := by simpa using b2
    have j3 : decide ((h.node.length : Int) ≤ t) = true := by simpa using b2
    clear a1 a2 b1 b2
    go_wp2_with fail
    refine (E_calls 7 W0).mono ?_
    rintro e y1 ⟨rfl, hy1⟩
    have HY1 : Hid (Below W0.heap.size W0 y1) := hy1
    clear hy1
    go_wp2_with fail
    refine (refAt_calls 3 (1 : Int) 7 y1).mono ?_
    rintro e y2 ⟨g, rfl, hg, hy2⟩
    have HY2 : Hid (Below W0.heap.size W0 y2) := btrH' HY1.out hy2
    have HG : Hid (HasPlaces y2 (.slice (some ⟨g, 0, none⟩) 1 1) [(3, (1 : Int))]) := pl_one hg
    clear hy2 hg
    obtain ⟨d0, d1', f0, f1⟩ := cell_two (HQ.out y2 HY2.out).2.1
    go_wp2
    exact bodyPost_ret (nodes_res (set_err (HQ.out y2 HY2.out).2.1 _ _) rfl) rfl (by rw [HER.out]; exact ⟨some ⟨g, 0, none⟩, 1, rfl, pl_sets (F := (7, [(3, (1 : Int))])) (HQ.out y2 HY2.out).2.1 HG.out _ _, HSZ.out _ _ _ (HQ.out y2 HY2.out).2.2.2⟩)
  have j2 : decide (t ≥ (h.node.length : Int)) = false := by simpa using b2
  have j3 : decide ((h.node.length : Int) ≤ t) = false := by simpa using b2
  have HER : Hid (nErr h.node.length s t = (0, [])) := nErr_no (by omega) (by omega)
  clear a1 a2 b1 b2
  obtain ⟨d0, d1', f0, f1⟩ := cell_two (HQ.out W0 HB0.out).2.1
  go_wp2
  exact bodyPost_ret (nodes_res (set_err (HQ.out W0 HB0.out).2.1 _ _) rfl) rfl (by rw [HER.out]; exact ⟨none, 0, rfl, pl_nil _, HSZ.out _ _ _ (HQ.out W0 HB0.out).2.2.2⟩)
theorem nodes_calls (v : HV) (h : Hr) (s t : Int) (w : World) (hH : HasH w v h) :
    Calls Tryz.prog 17 #[hvl v h, .int .i64 s, .int .i64 t] w fun e w' => RA w (nErr h.node.length s t) e w' :=
  nodes_aux v.no v.uo v.ul v.wo v.dl v.nc v.uc v.ulc v.wc v.dlc h s t w hH
/-- what is met: a rank and a length, or nothing. -/
def QAns (h : Hr) (s t : Int) (r : Nat) (d : Int) : Prop := (Nodes h s t ∧ meetL h s.toNat t.toNat = some (r, d)) ∨ ((¬ Nodes h s t ∨ meetL h s.toNat t.toNat = none) ∧ r = 0 ∧ d = 0)
theorem QAns.one {h : Hr} {s t : Int} {r q : Nat} {d e : Int} (a : QAns h s t r d) (b : QAns h s t q e) : r = q ∧ d = e := by
  rcases a with ⟨a1, a2⟩ | ⟨a1, rfl, rfl⟩ <;> rcases b with ⟨b1, b2⟩ | ⟨b1, rfl, rfl⟩
  · rw [a2] at b2
    simpa using b2
  · rcases b1 with b1 | b1
    · exact absurd a1 b1
    · rw [a2] at b1; cases b1
  · rcases a1 with a1 | a1
    · exact absurd b1 a1
    · rw [b2] at a1; cases a1
  · exact ⟨rfl, rfl⟩
/-- what Meet and DocMeet of the reference answer. -/
def MA (h : Hr) (s t : Int) (w : World) (e : Ending) (w' : World) : Prop := ∃ (r : Nat) (d : Int) (E : Int × List (Int × Int)) (lo : Option Addr) (lc : Nat), QAns h s t r d ∧ E = qErr h s t ∧ e = .returned (.tuple #[.int .i64 (r : Int), .int .u64 d, .agg #[.int .i64 E.1, .slice lo E.2.length lc]]) ∧ HasPlaces w' (.slice lo E.2.length lc) E.2 ∧ Below w.heap.size w w'
def bD : Option (Nat × Int) → Int
  | none => far
  | some x => x.2
def bR : Option (Nat × Int) → Nat
  | none => 0
  | some x => x.1
theorem bst_same {b : Option (Nat × Int)} {r : Nat} {a c : Int} (hlt : a + c < far) : bst b (r, a, false) (r, c, false) = if a + c < bD b then some (r, a + c) else b := by
  unfold bst
  rw [if_pos rfl]
  cases b with
  | none => exact (if_pos (show a + c < bD none from hlt)).symm
  | some x => rfl
theorem lens_some {h : Hr} (hc : chk h = (0, [])) {s x : Nat} {d : Int} (hs : s < h.node.length) (hx : (lens (rowL h.upF h.up) h.node.length s)[x]? = some (some d)) : 0 ≤ d ∧ d < 9223372036854775808 := by
  have hrow : ∀ r, r < h.node.length → ∀ l ∈ rowL h.upF h.up r, r < l.hd ∧ l.hd < h.node.length := fun r hr l hl => ⟨(row_form hc hr (Or.inl hl)).1, (row_form hc hr (Or.inl hl)).2.1⟩
  have hlt : x < h.node.length := by have := (List.getElem?_eq_some_iff.1 hx).1; rw [lens_len hs hrow] at this; exact this
  have q : (x, d) ∈ (upL h s).map (fun x => (x.1, x.2.1)) := by
    rw [show (upL h s).map (fun x => (x.1, x.2.1)) = outs (lens (rowL h.upF h.up) h.node.length s) h.node.length from climbed_outs hs hrow]; exact outs_mem.2 ⟨hlt, hx⟩
  obtain ⟨y, hy, e⟩ := List.mem_map.1 q
  have g := (up_bounds hc s).1 y hy
  simp only [Prod.mk.injEq] at e
  rw [← e.2]
  exact g
theorem meetD_res {W : World} {z : Nat} {x0 x1 u v : Value} {tmps : Array Value} (h1 : W.heap[z]? = some (.cells #[x0, x1] 31)) (t8 : tmps[8]?.getD undef = .pointer (some ⟨z, 0, none⟩)) (t6 : tmps[6]?.getD undef = u) (t7 : tmps[7]?.getD undef = v) :
    (results Tryz.f18 tmps).run Tryz.prog W = .ok (.tuple #[u, v, .agg #[x0, x1]]) W := by
  have c0 : W.cell? ⟨z, 0, none⟩ = some x0 := by simp [World.cell?, h1]
  have c1 : W.cell? ⟨z, 1, none⟩ = some x1 := by simp [World.cell?, h1]
  simp [results, Tryz.results18, go_sem, t6, t7, t8, c0, c1]

set_option maxRecDepth 100000 in
set_option maxHeartbeats 8000000 in
theorem meetD_aux (no uo ul wo dl : Option Addr) (nc uc ulc wc dlc : Nat) (h : Hr) (s t : Nat) (w : World) (hH : HasH w ⟨no, uo, ul, wo, dl, nc, uc, ulc, wc, dlc⟩ h) (hc : chk h = (0, [])) (hs : s < h.node.length) (ht : t < h.node.length) :
    Calls Tryz.prog 18 #[hvl ⟨no, uo, ul, wo, dl, nc, uc, ulc, wc, dlc⟩ h, .int .i64 (s : Int), .int .i64 (t : Int)] w fun e w' => MA h (s : Int) (t : Int) w e w' := by
  obtain ⟨z, hz⟩ : ∃ z, w.heap.size = z := ⟨_, rfl⟩
  obtain ⟨W0, hW0⟩ : ∃ W0, (w.alloc (.cells #[.slice no h.node.length nc, .slice uo h.upF.length uc, .slice ul h.up.length ulc, .slice wo h.dnF.length wc, .slice dl h.dn.length dlc] 25)).alloc (.cells #[.int .i64 0, .slice none 0 0] 31) = W0 := ⟨_, rfl⟩
  have hB0 : Below w.heap.size w W0 := by rw [← hW0]; exact ((Below.refl _ w).alloc (Nat.le_refl _) _).alloc (by simp) _
  have h0 : W0.heap[z]? = some (.cells #[.slice no h.node.length nc, .slice uo h.upF.length uc, .slice ul h.up.length ulc, .slice wo h.dnF.length wc, .slice dl h.dn.length dlc] 25) := by
    rw [← hW0, ← hz]; exact (Below.heap_alloc _ _ _ (by simp)).trans (heap_newW _ _)
  have h1 : W0.heap[z + 1]? = some (.cells #[.int .i64 0, .slice none 0 0] 31) := by
    have g := heap_newW (w.alloc (.cells #[.slice no h.node.length nc, .slice uo h.upF.length uc, .slice ul h.up.length ulc, .slice wo h.dnF.length wc, .slice dl h.dn.length dlc] 25)) (.cells #[.int .i64 0, .slice none 0 0] 31)
    rw [World.size_alloc, hW0, hz] at g
    exact g
  have HS0 : Hid (z + 1 < W0.heap.size) := some_lt h1
  have HQ : Hid (∀ wx, Below W0.heap.size W0 wx → wx.heap[z]? = some (.cells #[.slice no h.node.length nc, .slice uo h.upF.length uc, .slice ul h.up.length ulc, .slice wo h.dnF.length wc, .slice dl h.dn.length dlc] 25) ∧ wx.heap[z + 1]? = some (.cells #[.int .i64 0, .slice none 0 0] 31) ∧ HasH wx ⟨no, uo, ul, wo, dl, nc, uc, ulc, wc, dlc⟩ h ∧ Below w.heap.size w wx) := fun wx hx => by
    have g := hB0.trans (hx.mono hB0.size)
    exact ⟨(hx.block _ (some_lt h0)).trans h0, (hx.block _ (some_lt h1)).trans h1, hH.keep g, g⟩
  have HSZ : Hid (∀ (wx : World) (x y : Value), Below w.heap.size w wx → Below w.heap.size w ((wx.setCell ⟨z + 1, 0, none⟩ x).setCell ⟨z + 1, 1, none⟩ y)) := fun wx x y hx => (hx.setCell (p := ⟨z + 1, 0, none⟩) (by show w.heap.size ≤ z + 1; omega) _).setCell (p := ⟨z + 1, 1, none⟩) (by show w.heap.size ≤ z + 1; omega) _
  have HW0 : Hid ((w.alloc (.cells #[.slice no h.node.length nc, .slice uo h.upF.length uc, .slice ul h.up.length ulc, .slice wo h.dnF.length wc, .slice dl h.dn.length dlc] 25)).alloc (.cells #[.int .i64 0, .slice none 0 0] 31) = W0) := hW0
  have HB0 : Hid (Below W0.heap.size W0 W0) := Below.refl _ _
  obtain ⟨rs, hrs⟩ : ∃ rs, rankOf h s = rs := ⟨_, rfl⟩
  obtain ⟨rt, hrt⟩ : ∃ rt, rankOf h t = rt := ⟨_, rfl⟩
  have r1 := (rank_node hc hs).1
  have r2 := (rank_node hc ht).1
  have hml := meet_lens hc hs ht
  rw [hrs] at r1 hml
  rw [hrt] at r2 hml
  obtain ⟨A, hA⟩ : ∃ A, lens (rowL h.upF h.up) h.node.length rs = A := ⟨_, rfl⟩
  obtain ⟨B, hB⟩ : ∃ B, lens (rowL h.dnF h.dn) h.node.length rt = B := ⟨_, rfl⟩
  rw [hA, hB] at hml
  have HND : Hid (Nodes h (s : Int) (t : Int)) := ⟨hc, ⟨by omega, by omega⟩, ⟨by omega, by omega⟩⟩
  have HML : Hid (meetL h ((s : Int)).toNat ((t : Int)).toNat = meetTo A B h.node.length) := hml
  have HAB : Hid ((A.length = h.node.length ∧ ∀ (x : Nat) (d : Int), A[x]? = some (some d) → 0 ≤ d ∧ d < 9223372036854775808) ∧ B.length = h.node.length ∧ ∀ (x : Nat) (d : Int), B[x]? = some (some d) → 0 ≤ d ∧ d < 9223372036854775808) := by
    have hru : ∀ r, r < h.node.length → ∀ l ∈ rowL h.upF h.up r, r < l.hd ∧ l.hd < h.node.length := fun r hr l hl => ⟨(row_form hc hr (Or.inl hl)).1, (row_form hc hr (Or.inl hl)).2.1⟩
    have hrd : ∀ r, r < h.node.length → ∀ l ∈ rowL h.dnF h.dn r, r < l.hd ∧ l.hd < h.node.length := fun r hr l hl => ⟨(row_form hc hr (Or.inr hl)).1, (row_form hc hr (Or.inr hl)).2.1⟩
    refine ⟨⟨by rw [← hA]; exact lens_len r1 hru, fun x d hx => ?_⟩, by rw [← hB]; exact lens_len r2 hrd, fun x d hx => ?_⟩
    · rw [← hA] at hx
      exact lens_some hc r1 hx
    · rw [← hB, ← lens_turn] at hx
      exact lens_some (h := turnH h) (turn_chk hc) r2 hx
  have HR1 : Hid (∀ wx, HasH wx ⟨no, uo, ul, wo, dl, nc, uc, ulc, wc, dlc⟩ h → Calls Tryz.prog 33 #[hvl ⟨no, uo, ul, wo, dl, nc, uc, ulc, wc, dlc⟩ h, .int .i64 (s : Int)] wx fun e w' => e = .returned (.int .i64 (rs : Int)) ∧ Below wx.heap.size wx w') := fun wx hx => by rw [← hrs]; exact rank_calls _ h s wx hx hc hs
  have HR2 : Hid (∀ wx, HasH wx ⟨no, uo, ul, wo, dl, nc, uc, ulc, wc, dlc⟩ h → Calls Tryz.prog 33 #[hvl ⟨no, uo, ul, wo, dl, nc, uc, ulc, wc, dlc⟩ h, .int .i64 (t : Int)] wx fun e w' => e = .returned (.int .i64 (rt : Int)) ∧ Below wx.heap.size wx w') := fun wx hx => by rw [← hrt]; exact rank_calls _ h t wx hx hc ht
  have HD1 : Hid (∀ wx, HasH wx ⟨no, uo, ul, wo, dl, nc, uc, ulc, wc, dlc⟩ h → Calls Tryz.prog 32 #[hvl ⟨no, uo, ul, wo, dl, nc, uc, ulc, wc, dlc⟩ h, .int .i64 (rs : Int)] wx fun e w' => ∃ D, e = .returned (.slice (some ⟨D, 0, none⟩) h.node.length h.node.length) ∧ RAt u64v w' D h.node.length (dv A) ∧ wx.heap.size ≤ D ∧ Below wx.heap.size wx w') := fun wx hx => by
    have q := dists_calls _ h rs wx hx hc r1
    rw [hA] at q
    exact q
  have HTU : Hid (∀ wx, HasH wx ⟨no, uo, ul, wo, dl, nc, uc, ulc, wc, dlc⟩ h → Calls Tryz.prog 34 #[hvl ⟨no, uo, ul, wo, dl, nc, uc, ulc, wc, dlc⟩ h] wx fun e w' => ∃ u, e = .returned (hvl u (turnH h)) ∧ HasH w' u (turnH h) ∧ Below wx.heap.size wx w') := fun wx hx => rTurn_calls _ h wx hx (reach_ofc hc) hc
  have HD2 : Hid (∀ (u : HV) wx, HasH wx u (turnH h) → Calls Tryz.prog 32 #[hvl u (turnH h), .int .i64 (rt : Int)] wx fun e w' => ∃ D, e = .returned (.slice (some ⟨D, 0, none⟩) h.node.length h.node.length) ∧ RAt u64v w' D h.node.length (dv B) ∧ wx.heap.size ≤ D ∧ Below wx.heap.size wx w') := fun u wx hx => by
    have q := dists_calls u (turnH h) rt wx hx (turn_chk hc) r2
    rw [← hB, ← lens_turn]
    exact q
  have hnb : h.node.length ≤ 65536 := (chk_ok hc).1
  clear hW0 h0 h1 hB0 hH hc r1 r2 hml hA hB hrs hrt
  have eHV : hvl ⟨no, uo, ul, wo, dl, nc, uc, ulc, wc, dlc⟩ h = (.agg #[.slice no h.node.length nc, .slice uo h.upF.length uc, .slice ul h.up.length ulc, .slice wo h.dnF.length wc, .slice dl h.dn.length dlc]) := rfl
  rw [eHV] at HR1 HR2 HD1 HTU
  unfold hvl
  simp only
  clear eHV
  obtain ⟨c0, c1, c2, c3, c4⟩ := five_cells (HQ.out W0 HB0.out).1
  go_enter Tryz.func18, Tryz.ntmps18
  go_upto_region 1 with fail
  rw [HW0.out]
  clear HW0 hz c0 c1 c2 c3 c4
  have HSS : Hid (∀ wx : World, wx.heap[z]? = some (.cells #[.slice no h.node.length nc, .slice uo h.upF.length uc, .slice ul h.up.length ulc, .slice wo h.dnF.length wc, .slice dl h.dn.length dlc] 25) → (fun w' => w'.cell? ⟨z, 0, none⟩ = some (.slice no h.node.length nc) ∧ w'.cell? ⟨z, 1, none⟩ = some (.slice uo h.upF.length uc) ∧ w'.cell? ⟨z, 2, none⟩ = some (.slice ul h.up.length ulc) ∧ w'.cell? ⟨z, 3, none⟩ = some (.slice wo h.dnF.length wc) ∧ w'.cell? ⟨z, 4, none⟩ = some (.slice dl h.dn.length dlc) ∧ Hid (w'.heap[z]? = some (.cells #[.slice no h.node.length nc, .slice uo h.upF.length uc, .slice ul h.up.length ulc, .slice wo h.dnF.length wc, .slice dl h.dn.length dlc] 25))) wx) := fun wx hx => by
    obtain ⟨a0, a1, a2, a3, a4⟩ := five_cells hx
    exact ⟨a0, a1, a2, a3, a4, hx⟩
  refine wp_region_M (S := (fun w' => w'.cell? ⟨z, 0, none⟩ = some (.slice no h.node.length nc) ∧ w'.cell? ⟨z, 1, none⟩ = some (.slice uo h.upF.length uc) ∧ w'.cell? ⟨z, 2, none⟩ = some (.slice ul h.up.length ulc) ∧ w'.cell? ⟨z, 3, none⟩ = some (.slice wo h.dnF.length wc) ∧ w'.cell? ⟨z, 4, none⟩ = some (.slice dl h.dn.length dlc) ∧ Hid (w'.heap[z]? = some (.cells #[.slice no h.node.length nc, .slice uo h.upF.length uc, .slice ul h.up.length ulc, .slice wo h.dnF.length wc, .slice dl h.dn.length dlc] 25)))) (by kernel_rfl) (HSS.out _ (HQ.out _ (btrH' HB0.out (Below.refl _ _).drew)).1) ?_
  refine wpAnyM_take (i := 0) (oi := { dst := Option.some 14, op := Op.load 25 (Operand.tmp 3), type := 25, pos := "ref.go:47", after := #[], guard := Option.none }) (v := ?va1z0) rfl (by kernel_rfl) (by kernel_rfl) (by kernel_rfl) (fun _ _ _ h => h) (YieldsM.of_if (Or.inl ⟨by rfl, ?ha1z0⟩)) ?ra1z0
  case ha1z0 => ((intro wz hSw; (try dsimp only at hSw); go_simp); try (with_reducible rfl))
  try simp only [Act.put, List.setIfInBounds_toArray, List.set_cons_zero, List.set_cons_succ]
  refine wpAnyM_take (i := 1) (oi := { dst := Option.some 15, op := Op.load 25 (Operand.tmp 3), type := 25, pos := "ref.go:47", after := #[], guard := Option.none }) (v := ?va2z1) rfl (by kernel_rfl) (by kernel_rfl) (by kernel_rfl) (fun _ _ _ h => h) (YieldsM.of_if (Or.inl ⟨by rfl, ?ha2z1⟩)) ?ra2z1
  case ha2z1 => ((intro wz hSw; (try dsimp only at hSw); go_simp); try (with_reducible rfl))
  try simp only [Act.put, List.setIfInBounds_toArray, List.set_cons_zero, List.set_cons_succ]
  refine wpAnyM_take (i := 2) (oi := { dst := Option.some 16, op := Op.move (Operand.tmp 1), type := 3, pos := "ref.go:47", after := #[], guard := Option.none }) (v := ?va3z2) rfl (by kernel_rfl) (by kernel_rfl) (by kernel_rfl) (fun _ _ _ h => h) (YieldsM.of_if (Or.inl ⟨by rfl, ?ha3z2⟩)) ?ra3z2
  case ha3z2 => ((intro wz hSw; (try dsimp only at hSw); go_simp); try (with_reducible rfl))
  try simp only [Act.put, List.setIfInBounds_toArray, List.set_cons_zero, List.set_cons_succ]
  refine wpAnyM_take (i := 5) (oi := { dst := Option.some 19, op := Op.load 25 (Operand.tmp 3), type := 25, pos := "ref.go:47", after := #[], guard := Option.none }) (v := ?va4z5) rfl (by kernel_rfl) (by kernel_rfl) (by kernel_rfl) (fun _ _ _ h => h) (YieldsM.of_if (Or.inl ⟨by rfl, ?ha4z5⟩)) ?ra4z5
  case ha4z5 => ((intro wz hSw; (try dsimp only at hSw); go_simp); try (with_reducible rfl))
  try simp only [Act.put, List.setIfInBounds_toArray, List.set_cons_zero, List.set_cons_succ]
  refine wpAnyM_take (i := 7) (oi := { dst := Option.some 21, op := Op.load 25 (Operand.tmp 3), type := 25, pos := "ref.go:47", after := #[], guard := Option.none }) (v := ?va5z7) rfl (by kernel_rfl) (by kernel_rfl) (by kernel_rfl) (fun _ _ _ h => h) (YieldsM.of_if (Or.inl ⟨by rfl, ?ha5z7⟩)) ?ra5z7
  case ha5z7 => ((intro wz hSw; (try dsimp only at hSw); go_simp); try (with_reducible rfl))
  try simp only [Act.put, List.setIfInBounds_toArray, List.set_cons_zero, List.set_cons_succ]
  refine wpAnyM_take (i := 8) (oi := { dst := Option.some 22, op := Op.move (Operand.tmp 2), type := 3, pos := "ref.go:47", after := #[], guard := Option.none }) (v := ?va6z8) rfl (by kernel_rfl) (by kernel_rfl) (by kernel_rfl) (fun _ _ _ h => h) (YieldsM.of_if (Or.inl ⟨by rfl, ?ha6z8⟩)) ?ra6z8
  case ha6z8 => ((intro wz hSw; (try dsimp only at hSw); go_simp); try (with_reducible rfl))
  try simp only [Act.put, List.setIfInBounds_toArray, List.set_cons_zero, List.set_cons_succ]
  have F0 : Hid (∀ wx, Below W0.drew.heap.size W0.drew wx → wx.heap[z]? = some (.cells #[.slice no h.node.length nc, .slice uo h.upF.length uc, .slice ul h.up.length ulc, .slice wo h.dnF.length wc, .slice dl h.dn.length dlc] 25) ∧ wx.heap[z + 1]? = some (.cells #[.int .i64 0, .slice none 0 0] 31) ∧ HasH wx ⟨no, uo, ul, wo, dl, nc, uc, ulc, wc, dlc⟩ h ∧ Below w.heap.size w wx) := fun wx hx => HQ.out wx (btrH' HB0.out (btrH' (Below.refl _ _).drew hx))
  refine readyM (i := 3) (o := { dst := Option.some 17, op := Op.call { callee := Callee.value (Operand.func 33), args := #[Operand.tmp 15, Operand.tmp 16], argTypes := #[25, 3] }, type := 3, pos := "ref.go:47", after := #[{ on := 1, ground := Ground.data }, { on := 2, ground := Ground.data }], guard := Option.none }) rfl (by kernel_rfl) ?_
  intro u0 hg0 hS0 K hK
  have hf0 := F0.out u0 hg0
  clear hS0
  go_simp
  refine (HR1.out u0 hf0.2.2.1).mono ?_
  rintro e v0 ⟨rfl, hb0⟩
  have F1 : Hid (∀ wx, Below v0.heap.size v0 wx → wx.heap[z]? = some (.cells #[.slice no h.node.length nc, .slice uo h.upF.length uc, .slice ul h.up.length ulc, .slice wo h.dnF.length wc, .slice dl h.dn.length dlc] 25) ∧ wx.heap[z + 1]? = some (.cells #[.int .i64 0, .slice none 0 0] 31) ∧ HasH wx ⟨no, uo, ul, wo, dl, nc, uc, ulc, wc, dlc⟩ h ∧ Below w.heap.size w wx) := fun wx hx => F0.out wx (btrH' hg0 (btrH' hb0 hx))
  go_wp2_with fail
  refine hK.out _ _ (HSS.out _ (F1.out v0 (Below.refl _ _)).1) ?_
  clear hK K hb0 hg0 hf0 F0
  try simp only [Act.put, List.setIfInBounds_toArray, List.set_cons_zero, List.set_cons_succ]
  refine readyM (i := 4) (o := { dst := Option.some 18, op := Op.call { callee := Callee.value (Operand.func 32), args := #[Operand.tmp 14, Operand.tmp 17], argTypes := #[25, 3] }, type := 80, pos := "ref.go:47", after := #[{ on := 0, ground := Ground.data }, { on := 3, ground := Ground.data }, { on := 3, ground := Ground.chain }], guard := Option.none }) rfl (by kernel_rfl) ?_
  intro u1 hg1 hS1 K hK
  have hf1 := F1.out u1 hg1
  clear hS1
  go_simp
  refine (HD1.out u1 hf1.2.2.1).mono ?_
  rintro e v1 ⟨D1, rfl, hra1, _, hb1⟩
  have F2 : Hid (∀ wx, Below v1.heap.size v1 wx → (wx.heap[z]? = some (.cells #[.slice no h.node.length nc, .slice uo h.upF.length uc, .slice ul h.up.length ulc, .slice wo h.dnF.length wc, .slice dl h.dn.length dlc] 25) ∧ wx.heap[z + 1]? = some (.cells #[.int .i64 0, .slice none 0 0] 31) ∧ HasH wx ⟨no, uo, ul, wo, dl, nc, uc, ulc, wc, dlc⟩ h ∧ Below w.heap.size w wx) ∧ RAt u64v wx D1 h.node.length (dv A)) := fun wx hx => ⟨F1.out wx (btrH' hg1 (btrH' hb1 hx)), hra1.keep hx⟩
  go_wp2_with fail
  refine hK.out _ _ (HSS.out _ (F2.out v1 (Below.refl _ _)).1.1) ?_
  clear hK K hb1 hg1 hf1 F1 hra1
  try simp only [Act.put, List.setIfInBounds_toArray, List.set_cons_zero, List.set_cons_succ]
  refine readyM (i := 6) (o := { dst := Option.some 20, op := Op.call { callee := Callee.value (Operand.func 34), args := #[Operand.tmp 19], argTypes := #[25] }, type := 25, pos := "ref.go:47", after := #[{ on := 5, ground := Ground.data }, { on := 4, ground := Ground.chain }], guard := Option.none }) rfl (by kernel_rfl) ?_
  intro u2 hg2 hS2 K hK
  have hf2 := F2.out u2 hg2
  clear hS2
  go_simp
  refine (HTU.out u2 hf2.1.2.2.1).mono ?_
  rintro e v2 ⟨tv, rfl, hth, hb2⟩
  have F3 : Hid (∀ wx, Below v2.heap.size v2 wx → ((wx.heap[z]? = some (.cells #[.slice no h.node.length nc, .slice uo h.upF.length uc, .slice ul h.up.length ulc, .slice wo h.dnF.length wc, .slice dl h.dn.length dlc] 25) ∧ wx.heap[z + 1]? = some (.cells #[.int .i64 0, .slice none 0 0] 31) ∧ HasH wx ⟨no, uo, ul, wo, dl, nc, uc, ulc, wc, dlc⟩ h ∧ Below w.heap.size w wx) ∧ RAt u64v wx D1 h.node.length (dv A)) ∧ HasH wx tv (turnH h)) := fun wx hx => ⟨F2.out wx (btrH' hg2 (btrH' hb2 hx)), hth.keep hx⟩
  go_wp2_with fail
  refine hK.out _ _ (HSS.out _ (F3.out v2 (Below.refl _ _)).1.1.1) ?_
  clear hK K hb2 hg2 hf2 F2 hth
  try simp only [Act.put, List.setIfInBounds_toArray, List.set_cons_zero, List.set_cons_succ]
  refine readyM (i := 9) (o := { dst := Option.some 23, op := Op.call { callee := Callee.value (Operand.func 33), args := #[Operand.tmp 21, Operand.tmp 22], argTypes := #[25, 3] }, type := 3, pos := "ref.go:47", after := #[{ on := 7, ground := Ground.data }, { on := 8, ground := Ground.data }, { on := 6, ground := Ground.chain }], guard := Option.none }) rfl (by kernel_rfl) ?_
  intro u3 hg3 hS3 K hK
  have hf3 := F3.out u3 hg3
  clear hS3
  go_simp
  refine (HR2.out u3 hf3.1.1.2.2.1).mono ?_
  rintro e v3 ⟨rfl, hb3⟩
  have F4 : Hid (∀ wx, Below v3.heap.size v3 wx → ((wx.heap[z]? = some (.cells #[.slice no h.node.length nc, .slice uo h.upF.length uc, .slice ul h.up.length ulc, .slice wo h.dnF.length wc, .slice dl h.dn.length dlc] 25) ∧ wx.heap[z + 1]? = some (.cells #[.int .i64 0, .slice none 0 0] 31) ∧ HasH wx ⟨no, uo, ul, wo, dl, nc, uc, ulc, wc, dlc⟩ h ∧ Below w.heap.size w wx) ∧ RAt u64v wx D1 h.node.length (dv A)) ∧ HasH wx tv (turnH h)) := fun wx hx => F3.out wx (btrH' hg3 (btrH' hb3 hx))
  go_wp2_with fail
  refine hK.out _ _ (HSS.out _ (F4.out v3 (Below.refl _ _)).1.1.1) ?_
  clear hK K hb3 hg3 hf3 F3
  try simp only [Act.put, List.setIfInBounds_toArray, List.set_cons_zero, List.set_cons_succ]
  refine readyM (i := 10) (o := { dst := Option.some 24, op := Op.call { callee := Callee.value (Operand.func 32), args := #[Operand.tmp 20, Operand.tmp 23], argTypes := #[25, 3] }, type := 80, pos := "ref.go:47", after := #[{ on := 6, ground := Ground.data }, { on := 9, ground := Ground.data }, { on := 9, ground := Ground.chain }], guard := Option.none }) rfl (by kernel_rfl) ?_
  intro u4 hg4 hS4 K hK
  have hf4 := F4.out u4 hg4
  clear hS4
  go_simp
  refine (HD2.out tv u4 hf4.2).mono ?_
  rintro e v4 ⟨D2, rfl, hra2, _, hb4⟩
  have F5 : Hid (∀ wx, Below v4.heap.size v4 wx → (wx.heap[z]? = some (.cells #[.slice no h.node.length nc, .slice uo h.upF.length uc, .slice ul h.up.length ulc, .slice wo h.dnF.length wc, .slice dl h.dn.length dlc] 25) ∧ wx.heap[z + 1]? = some (.cells #[.int .i64 0, .slice none 0 0] 31) ∧ HasH wx ⟨no, uo, ul, wo, dl, nc, uc, ulc, wc, dlc⟩ h ∧ Below w.heap.size w wx) ∧ RAt u64v wx D1 h.node.length (dv A) ∧ RAt u64v wx D2 h.node.length (dv B)) := fun wx hx => ⟨(F4.out wx (btrH' hg4 (btrH' hb4 hx))).1.1, (F4.out wx (btrH' hg4 (btrH' hb4 hx))).1.2, hra2.keep hx⟩
  go_wp2_with fail
  refine hK.out _ _ (HSS.out _ (F5.out v4 (Below.refl _ _)).1.1) ?_
  clear hK K hb4 hg4 hf4 F4 hra2
  try simp only [Act.put, List.setIfInBounds_toArray, List.set_cons_zero, List.set_cons_succ]
  refine wpAnyM_take (i := 11) (oi := { dst := Option.some 9, op := Op.assign (Operand.tmp 18), type := 80, pos := "ref.go:47", after := #[{ on := 4, ground := Ground.data }, { on := 10, ground := Ground.chain }, { on := 0, ground := Ground.phase }, { on := 1, ground := Ground.phase }, { on := 2, ground := Ground.phase }, { on := 3, ground := Ground.phase }, { on := 4, ground := Ground.phase }, { on := 5, ground := Ground.textOnly Departure.lateStores }, { on := 6, ground := Ground.textOnly Departure.lateStoresUnsure }, { on := 7, ground := Ground.textOnly Departure.lateStores }, { on := 8, ground := Ground.textOnly Departure.lateStores }, { on := 9, ground := Ground.textOnly Departure.lateStoresUnsure }, { on := 10, ground := Ground.textOnly Departure.lateStoresUnsure }], guard := Option.none }) (v := ?vb7z11) rfl (by kernel_rfl) (by kernel_rfl) (by kernel_rfl) (fun _ _ _ h => h) (YieldsM.of_if (Or.inl ⟨by rfl, ?hb7z11⟩)) ?rb7z11
  case hb7z11 => ((intro wz hSw; (try dsimp only at hSw); go_simp); try (with_reducible rfl))
  try simp only [Act.put, List.setIfInBounds_toArray, List.set_cons_zero, List.set_cons_succ]
  refine wpAnyM_take (i := 12) (oi := { dst := Option.some 10, op := Op.assign (Operand.tmp 24), type := 80, pos := "ref.go:47", after := #[{ on := 10, ground := Ground.data }, { on := 11, ground := Ground.chain }, { on := 0, ground := Ground.phase }, { on := 1, ground := Ground.phase }, { on := 2, ground := Ground.phase }, { on := 3, ground := Ground.phase }, { on := 4, ground := Ground.phase }, { on := 5, ground := Ground.phase }, { on := 6, ground := Ground.phase }, { on := 7, ground := Ground.phase }, { on := 8, ground := Ground.phase }, { on := 9, ground := Ground.phase }, { on := 10, ground := Ground.phase }, { on := 11, ground := Ground.phase }], guard := Option.none }) (v := ?vb8z12) rfl (by kernel_rfl) (by kernel_rfl) (by kernel_rfl) (fun _ _ _ h => h) (YieldsM.of_if (Or.inl ⟨by rfl, ?hb8z12⟩)) ?rb8z12
  case hb8z12 => ((intro wz hSw; (try dsimp only at hSw); go_simp); try (with_reducible rfl))
  try simp only [Act.put, List.setIfInBounds_toArray, List.set_cons_zero, List.set_cons_succ]
  refine wpAnyM_done (by kernel_rfl) ?_ _
  intro u9 hg9 hS9
  have HG : Hid (∀ wx, Below u9.heap.size u9 wx → RAt u64v wx D1 h.node.length (dv A) ∧ RAt u64v wx D2 h.node.length (dv B) ∧ wx.heap[z + 1]? = some (.cells #[.int .i64 0, .slice none 0 0] 31) ∧ Below w.heap.size w wx) := fun wx hx => by
    have g := F5.out wx (btrH' hg9 hx)
    exact ⟨g.2.1, g.2.2, g.1.2.1, g.1.2.2.2⟩
  clear hS9 hg9 F5
  go_wp2_with fail
  go_loopw [11, 12, 27] (fun bv av iv wr => ∃ (r : Nat) (b : Option (Nat × Int)), r ≤ h.node.length ∧ iv = .int .i64 r ∧ bv = .int .u64 (bD b) ∧ av = .int .i64 (bR b : Int) ∧ Hid (b = meetTo A B r ∧ (∀ x, b = some x → 0 ≤ x.2 ∧ x.2 < far)) ∧ Hid (Below u9.heap.size u9 wr)) (fun _ _ iv _ => h.node.length - (intOf iv).toNat)
  case atStart => exact ⟨0, none, Nat.zero_le _, rfl, rfl, rfl, ⟨rfl, fun x hx => by cases hx⟩, Below.refl _ _⟩
  case round =>
    obtain ⟨r, b, hr, rfl, rfl, rfl, HBB, HB⟩ := hrel
    rcases Nat.lt_or_eq_of_le hr with h1 | h1
    · have i2 : (0 : Int) ≤ (r : Int) := by omega
      have i3 : (r : Int) < (h.node.length : Int) := by omega
      have q6 : decide ((r : Int) < (h.node.length : Int)) = true := by simp; omega
      have q6n : decide (r < h.node.length) = true := by simp; omega
      have HCA : Hid (∀ wx, Below u9.heap.size u9 wx → wx.cell? ⟨D1, r, none⟩ = some (.int .u64 (dv A r)) ∧ wx.cell? ⟨D2, r, none⟩ = some (.int .u64 (dv B r))) := fun wx hx => ⟨(HG.out wx hx).1.cell r h1, (HG.out wx hx).2.1.cell r h1⟩
      have HNX : Hid (∀ nq, Below u9.heap.size u9 (wr.drewN nq)) := fun nq => Cb.bdrew HB.out nq
      obtain ⟨x1, x2⟩ := HCA.out wr HB.out
      rcases dv_range HAB.out.1.1 h1 with ⟨a, ha⟩ | hna
      · have ha0 := HAB.out.1.2 r a ha
        rw [dv_some ha] at x1
        have x1' : wr.cell? ⟨D1, r, none⟩ = some (.int .u64 a) := x1
        have n1 : (a != 18446744073709551615) = true := by simp; omega
        rcases dv_range HAB.out.2.1 h1 with ⟨c, hc⟩ | hnb2
        · have hc0 := HAB.out.2.2 r c hc
          rw [dv_some hc] at x2
          have x2' : wr.cell? ⟨D2, r, none⟩ = some (.int .u64 c) := x2
          have n2 : (c != 18446744073709551615) = true := by simp; omega
          have n3 : IntKind.u64.wrap (a + c) = a + c := by rw [IntKind.wrap_u64]; omega
          have HCQ : Hid (∀ wx, Below u9.heap.size u9 wx → wx.cell? ⟨D1, r, none⟩ = some (.int .u64 a) ∧ wx.cell? ⟨D2, r, none⟩ = some (.int .u64 c)) := fun wx hx => by
            have g := HCA.out wx hx
            rw [dv_some ha, dv_some hc] at g
            exact g
          have hfar : a + c < far := by unfold far; omega
          have HST : Hid (meetTo A B (r + 1) = if a + c < bD b then some (r, a + c) else b) := by show _ = _; rw [meetTo_succ, step_both ha hc, ← HBB.out.1, bst_same hfar]
          obtain ⟨bd, hbd⟩ : ∃ bd, bD b = bd := ⟨_, rfl⟩
          rw [hbd] at HST ⊢
          have HBD : Hid (bD b = bd) := hbd
          clear x1 x2 ha hc hbd
          by_cases hlt : a + c < bd
          · have n4 : decide (a + c < bd) = true := by simpa using hlt
            have HB2 : Hid (some (r, a + c) = meetTo A B (r + 1) ∧ (∀ x, some (r, a + c) = some x → 0 ≤ x.2 ∧ x.2 < far)) := ⟨by rw [HST.out, if_pos hlt], fun x hx => by cases hx; exact ⟨by simp only; omega, hfar⟩⟩
            clear hlt hfar
            go_wp2_with fail
            go_quiet (fail)
            obtain ⟨WQ, hWQ⟩ : ∃ WQ, wr.drewN nq = WQ := ⟨_, rfl⟩
            have HWQ : Hid (Below u9.heap.size u9 WQ) := by show Below _ _ _; rw [← hWQ]; exact HNX.out nq
            rw [hWQ]
            clear hWQ x1' x2'
            obtain ⟨x1', x2'⟩ := HCQ.out WQ HWQ.out
            have HNX2 : Hid (∀ nq, Below u9.heap.size u9 (WQ.drewN nq)) := fun nq => Cb.bdrew HWQ.out nq
            go_wp2_with fail
            go_quiet (fail)
            go_wp2
            go_roundw
            case rel => exact ⟨r + 1, some (r, a + c), by omega, by go_num, rfl, rfl, HB2.out, HNX2.out nq⟩
            case measure => simp [intOf]; omega
          · have n4 : decide (a + c < bd) = false := by simpa using hlt
            have HB2 : Hid (b = meetTo A B (r + 1) ∧ (∀ x, b = some x → 0 ≤ x.2 ∧ x.2 < far)) := ⟨by rw [HST.out, if_neg hlt], HBB.out.2⟩
            clear hlt hfar
            go_wp2_with fail
            go_quiet (fail)
            go_wp2
            go_roundw
            case rel => exact ⟨r + 1, b, by omega, by go_num, by rw [HBD.out], rfl, HB2.out, HNX.out nq⟩
            case measure => simp [intOf]; omega
        · have hvn : ∀ d, B[r]? ≠ some (some d) := fun d hd => by rw [hnb2] at hd; cases hd
          rw [dv_none hvn] at x2
          have x2' : wr.cell? ⟨D2, r, none⟩ = some (.int .u64 18446744073709551615) := x2
          have HB2 : Hid (b = meetTo A B (r + 1) ∧ (∀ x, b = some x → 0 ≤ x.2 ∧ x.2 < far)) := ⟨by rw [meetTo_succ, step_right hvn]; exact HBB.out.1, HBB.out.2⟩
          clear hvn hnb2 x1 x2 ha
          go_wp2_with fail
          go_quiet (fail)
          go_wp2
          go_roundw
          case rel => exact ⟨r + 1, b, by omega, by go_num, rfl, rfl, HB2.out, HNX.out nq⟩
          case measure => simp [intOf]; omega
      · have hvn : ∀ d, A[r]? ≠ some (some d) := fun d hd => by rw [hna] at hd; cases hd
        rw [dv_none hvn] at x1
        have x1' : wr.cell? ⟨D1, r, none⟩ = some (.int .u64 18446744073709551615) := x1
        have HB2 : Hid (b = meetTo A B (r + 1) ∧ (∀ x, b = some x → 0 ≤ x.2 ∧ x.2 < far)) := ⟨by rw [meetTo_succ, step_left hvn]; exact HBB.out.1, HBB.out.2⟩
        clear hvn hna x1 x2
        go_wp2_with fail
        go_quiet (fail)
        go_wp2
        go_roundw
        case rel => exact ⟨r + 1, b, by omega, by go_num, rfl, rfl, HB2.out, HNX.out nq⟩
        case measure => simp [intOf]; omega
    · have q6 : decide ((r : Int) < (h.node.length : Int)) = false := by simp; omega
      have q6n : decide (r < h.node.length) = false := by simp; omega
      have HML2 : Hid (meetL h ((s : Int)).toNat ((t : Int)).toNat = b) := by show _ = _; rw [HML.out, HBB.out.1, h1]
      obtain ⟨_, _, g3, g4⟩ := HG.out wr HB.out
      have HZ : Hid (wr.heap[z + 1]? = some (.cells #[.int .i64 0, .slice none 0 0] 31) ∧ Below w.heap.size w wr) := ⟨g3, g4⟩
      clear h1 hr g3 g4
      cases b with
      | none =>
        have HER : Hid (qErr h (s : Int) (t : Int) = (16, [])) := qErr_no HND.out HML2.out
        have HAN : Hid (QAns h (s : Int) (t : Int) 0 0) := Or.inr ⟨Or.inr HML2.out, rfl, rfl⟩
        have n5 : bD none = 18446744073709551615 := rfl
        rw [n5]
        clear n5
        go_wp2_with fail
        refine (E_calls 16 wr).mono ?_
        rintro e y1 ⟨rfl, hb⟩
        have HY1 : Hid (y1.heap[z + 1]? = some (.cells #[.int .i64 0, .slice none 0 0] 31) ∧ Below w.heap.size w y1) := ⟨(hb.block _ (some_lt HZ.out.1)).trans HZ.out.1, HZ.out.2.trans (hb.mono HZ.out.2.size)⟩
        clear hb
        obtain ⟨d0, d1', f0, f1⟩ := cell_two HY1.out.1
        go_wp2
        exact bodyPost_ret (meetD_res (set_err HY1.out.1 _ _) rfl rfl rfl) rfl ⟨0, 0, (16, []), none, 0, HAN.out, HER.out.symm, rfl, pl_nil _, HSZ.out _ _ _ HY1.out.2⟩
      | some x =>
        obtain ⟨q, d⟩ := x
        have hd := HBB.out.2 (q, d) rfl
        unfold far at hd
        simp only at hd
        have HER : Hid (qErr h (s : Int) (t : Int) = (0, [])) := qErr_ok HND.out HML2.out
        have HAN : Hid (QAns h (s : Int) (t : Int) q d) := Or.inl ⟨HND.out, HML2.out⟩
        have n5 : bD (some (q, d)) = d := rfl
        have n6 : bR (some (q, d)) = q := rfl
        rw [n5, n6]
        have n7 : (d == 18446744073709551615) = false := by simp; omega
        clear n5 n6 hd
        obtain ⟨d0, d1', f0, f1⟩ := cell_two HZ.out.1
        go_wp2
        exact bodyPost_ret (meetD_res (set_err HZ.out.1 _ _) rfl rfl rfl) rfl ⟨q, d, (0, []), none, 0, HAN.out, HER.out.symm, rfl, pl_nil _, HSZ.out _ _ _ HZ.out.2⟩
theorem meetD_calls (v : HV) (h : Hr) (s t : Nat) (w : World) (hH : HasH w v h) (hc : chk h = (0, [])) (hs : s < h.node.length) (ht : t < h.node.length) :
    Calls Tryz.prog 18 #[hvl v h, .int .i64 (s : Int), .int .i64 (t : Int)] w fun e w' => MA h (s : Int) (t : Int) w e w' :=
  meetD_aux v.no v.uo v.ul v.wo v.dl v.nc v.uc v.ulc v.wc v.dlc h s t w hH hc hs ht
end Go.Proofs.YthcdkokgfnidiaaGreatDoor.Qy

namespace Go.Proofs.YthcdkokgfnidiaaGreatDoor.Qy
open Go.RowKit Go.Extern Go.Shelf Hi Cb

attribute [local go_sem] Oper.semAt_some

theorem docMeet_res {W : World} {z : Nat} {x0 x1 u v : Value} {tmps : Array Value} (h1 : W.heap[z]? = some (.cells #[x0, x1] 31)) (t8 : tmps[8]?.getD undef = .pointer (some ⟨z, 0, none⟩)) (t6 : tmps[6]?.getD undef = u) (t7 : tmps[7]?.getD undef = v) :
    (results Tryz.f7 tmps).run Tryz.prog W = .ok (.tuple #[u, v, .agg #[x0, x1]]) W := by
  have c0 : W.cell? ⟨z, 0, none⟩ = some x0 := by simp [World.cell?, h1]
  have c1 : W.cell? ⟨z, 1, none⟩ = some x1 := by simp [World.cell?, h1]
  simp [results, Tryz.results7, go_sem, t6, t7, t8, c0, c1]
theorem qErr_nodes {h : Hr} {s t : Int} (hc : chk h = (0, [])) (hn : ¬ nErr h.node.length s t = (0, [])) : qErr h s t = nErr h.node.length s t ∧ ¬ Nodes h s t := by
  by_cases g1 : 0 ≤ s ∧ s < (h.node.length : Int)
  · by_cases g2 : 0 ≤ t ∧ t < (h.node.length : Int)
    · exact absurd (nErr_no g1 g2) hn
    · exact ⟨by rw [qErr_t hc g1 g2, nErr_t g1 g2], fun q => g2 q.2.2⟩
  · exact ⟨by rw [qErr_s hc g1, nErr_s g1], fun q => g1 q.2.1⟩
theorem nErr_zero {n : Nat} {s t : Int} (h : nErr n s t = (0, [])) : (0 ≤ s ∧ s < (n : Int)) ∧ 0 ≤ t ∧ t < (n : Int) := by
  by_cases g1 : 0 ≤ s ∧ s < (n : Int)
  · by_cases g2 : 0 ≤ t ∧ t < (n : Int)
    · exact ⟨g1, g2⟩
    · rw [nErr_t g1 g2] at h; simp at h
  · rw [nErr_s g1] at h; simp at h

set_option maxRecDepth 100000 in
set_option maxHeartbeats 8000000 in
theorem docMeet_aux (no uo ul wo dl : Option Addr) (nc uc ulc wc dlc : Nat) (h : Hr) (s t : Int) (w : World) (hH : HasH w ⟨no, uo, ul, wo, dl, nc, uc, ulc, wc, dlc⟩ h) (hb1 : h.up.length ≤ 1152921504606846976) (hb2 : h.dn.length ≤ 1152921504606846976) (hb3 : h.node.length ≤ 1152921504606846976) :
    Calls Tryz.prog 7 #[hvl ⟨no, uo, ul, wo, dl, nc, uc, ulc, wc, dlc⟩ h, .int .i64 s, .int .i64 t] w fun e w' => MA h s t w e w' := by
  obtain ⟨z, hz⟩ : ∃ z, w.heap.size = z := ⟨_, rfl⟩
  obtain ⟨W0, hW0⟩ : ∃ W0, (w.alloc (.cells #[.slice no h.node.length nc, .slice uo h.upF.length uc, .slice ul h.up.length ulc, .slice wo h.dnF.length wc, .slice dl h.dn.length dlc] 25)).alloc (.cells #[.int .i64 0, .slice none 0 0] 31) = W0 := ⟨_, rfl⟩
  have hB0 : Below w.heap.size w W0 := by rw [← hW0]; exact ((Below.refl _ w).alloc (Nat.le_refl _) _).alloc (by simp) _
  have h0 : W0.heap[z]? = some (.cells #[.slice no h.node.length nc, .slice uo h.upF.length uc, .slice ul h.up.length ulc, .slice wo h.dnF.length wc, .slice dl h.dn.length dlc] 25) := by
    rw [← hW0, ← hz]; exact (Below.heap_alloc _ _ _ (by simp)).trans (heap_newW _ _)
  have h1 : W0.heap[z + 1]? = some (.cells #[.int .i64 0, .slice none 0 0] 31) := by
    have g := heap_newW (w.alloc (.cells #[.slice no h.node.length nc, .slice uo h.upF.length uc, .slice ul h.up.length ulc, .slice wo h.dnF.length wc, .slice dl h.dn.length dlc] 25)) (.cells #[.int .i64 0, .slice none 0 0] 31)
    rw [World.size_alloc, hW0, hz] at g
    exact g
  have HS0 : Hid (z + 1 < W0.heap.size) := some_lt h1
  have HQ : Hid (∀ wx, Below W0.heap.size W0 wx → wx.heap[z]? = some (.cells #[.slice no h.node.length nc, .slice uo h.upF.length uc, .slice ul h.up.length ulc, .slice wo h.dnF.length wc, .slice dl h.dn.length dlc] 25) ∧ wx.heap[z + 1]? = some (.cells #[.int .i64 0, .slice none 0 0] 31) ∧ HasH wx ⟨no, uo, ul, wo, dl, nc, uc, ulc, wc, dlc⟩ h ∧ Below w.heap.size w wx) := fun wx hx => by
    have g := hB0.trans (hx.mono hB0.size)
    exact ⟨(hx.block _ (some_lt h0)).trans h0, (hx.block _ (some_lt h1)).trans h1, hH.keep g, g⟩
  have HSZ : Hid (∀ (wx : World) (x y : Value), Below w.heap.size w wx → Below w.heap.size w ((wx.setCell ⟨z + 1, 0, none⟩ x).setCell ⟨z + 1, 1, none⟩ y)) := fun wx x y hx => (hx.setCell (p := ⟨z + 1, 0, none⟩) (by show w.heap.size ≤ z + 1; omega) _).setCell (p := ⟨z + 1, 1, none⟩) (by show w.heap.size ≤ z + 1; omega) _
  have HW0 : Hid ((w.alloc (.cells #[.slice no h.node.length nc, .slice uo h.upF.length uc, .slice ul h.up.length ulc, .slice wo h.dnF.length wc, .slice dl h.dn.length dlc] 25)).alloc (.cells #[.int .i64 0, .slice none 0 0] 31) = W0) := hW0
  have HB0 : Hid (Below W0.heap.size W0 W0) := Below.refl _ _
  have HDC : Hid (∀ wx, Below W0.heap.size W0 wx → Calls Tryz.prog 15 #[hvl ⟨no, uo, ul, wo, dl, nc, uc, ulc, wc, dlc⟩ h] wx fun e w' => RA wx (chk h) e w') := fun wx hx => docCheck10_calls _ h wx (HQ.out wx hx).2.2.1 hb1 hb2 hb3
  have HNO : Hid (∀ wx, Below W0.heap.size W0 wx → Calls Tryz.prog 17 #[hvl ⟨no, uo, ul, wo, dl, nc, uc, ulc, wc, dlc⟩ h, .int .i64 s, .int .i64 t] wx fun e w' => RA wx (nErr h.node.length s t) e w') := fun wx hx => nodes_calls _ h s t wx (HQ.out wx hx).2.2.1
  have HME : Hid (∀ wx, Below W0.heap.size W0 wx → chk h = (0, []) → nErr h.node.length s t = (0, []) → Calls Tryz.prog 18 #[hvl ⟨no, uo, ul, wo, dl, nc, uc, ulc, wc, dlc⟩ h, .int .i64 s, .int .i64 t] wx fun e w' => MA h s t wx e w') := fun wx hx hc hn => by
    obtain ⟨g1, g2⟩ := nErr_zero hn
    obtain ⟨s', rfl⟩ : ∃ s' : Nat, s = (s' : Int) := ⟨s.toNat, by omega⟩
    obtain ⟨t', rfl⟩ : ∃ t' : Nat, t = (t' : Int) := ⟨t.toNat, by omega⟩
    exact meetD_calls _ h s' t' wx (HQ.out wx hx).2.2.1 hc (by omega) (by omega)
  clear hW0 h0 h1 hB0 hH
  unfold hvl at HDC HNO HME ⊢
  simp only at HDC HNO HME ⊢
  go_enter Tryz.func7, Tryz.ntmps7
  go_upto_region 1 with fail
  rw [HW0.out]
  clear HW0 hz
  obtain ⟨c0, c1, c2, c3, c4⟩ := five_cells (HQ.out W0 HB0.out).1
  go_wp2_with fail
  refine (HDC.out W0 HB0.out).mono ?_
  rintro e w1 ⟨lo, lc, rfl, hp, hb⟩
  obtain ⟨E, hE⟩ : ∃ E, chk h = E := ⟨_, rfl⟩
  have HE : Hid (chk h = E) := hE
  rw [hE] at hp ⊢
  obtain ⟨q, hq⟩ : ∃ q, w1.heap.size = q := ⟨_, rfl⟩
  obtain ⟨W2, hW2⟩ : ∃ W2, w1.alloc (.cells #[.int .i64 E.1, .slice lo E.2.length lc] 31) = W2 := ⟨_, rfl⟩
  have HW2 : Hid (w1.alloc (.cells #[.int .i64 E.1, .slice lo E.2.length lc] 31) = W2) := hW2
  have H2 : Hid (∀ wx, Below W2.heap.size W2 wx → wx.heap[q]? = some (.cells #[.int .i64 E.1, .slice lo E.2.length lc] 31) ∧ HasPlaces wx (.slice lo E.2.length lc) E.2 ∧ Below W0.heap.size W0 wx) := fun wx hx => by
    have g1 : W2.heap[q]? = some (.cells #[.int .i64 E.1, .slice lo E.2.length lc] 31) := by rw [← hW2, ← hq]; exact heap_newW _ _
    have g2 : Below w1.heap.size w1 W2 := by rw [← hW2]; exact (Below.refl _ _).alloc (Nat.le_refl _) _
    have g3 := btrH' g2 hx
    exact ⟨(hx.block _ (some_lt g1)).trans g1, hp.keep g3, btrH' hb g3⟩
  have HQ0 : Hid (q ≠ z + 1) := by show q ≠ z + 1; have := HS0.out; have := hb.size; omega
  clear hp hb hW2 c0 c1 c2 c3 c4 hE
  go_upto_region 2 with fail
  rw [HW2.out]
  clear HW2 hq
  obtain ⟨q0, q1, _, _⟩ := cell_two (H2.out W2 (Below.refl _ _)).1
  go_wp2_with fail
  refine (Hi.bad_calls E.1 lo E.2.length lc W2).mono ?_
  rintro e w3 ⟨rfl, hb⟩
  rw [bad_iff]
  have HB3 : Hid (Below W2.heap.size W2 w3) := hb
  clear hb q0 q1
  by_cases hc : E = (0, [])
  · have j1 : decide (E = (0, [])) = true := by simpa using hc
    have HC : Hid (chk h = (0, [])) := by show _ = _; rw [HE.out]; exact hc
    clear hc
    have HB4 : Hid (Below W0.heap.size W0 w3) := (H2.out w3 HB3.out).2.2
    obtain ⟨c0, c1, c2, c3, c4⟩ := five_cells (HQ.out w3 HB4.out).1
    go_wp2_with fail
    refine (HNO.out w3 HB4.out).mono ?_
    rintro e w5 ⟨lo2, lc2, rfl, hp, hb⟩
    obtain ⟨G, hG⟩ : ∃ G, nErr h.node.length s t = G := ⟨_, rfl⟩
    have HGG : Hid (nErr h.node.length s t = G) := hG
    rw [hG] at hp ⊢
    obtain ⟨q2, hq⟩ : ∃ q, w5.heap.size = q := ⟨_, rfl⟩
    obtain ⟨W6, hW6⟩ : ∃ W6, w5.alloc (.cells #[.int .i64 G.1, .slice lo2 G.2.length lc2] 31) = W6 := ⟨_, rfl⟩
    have HW6 : Hid (w5.alloc (.cells #[.int .i64 G.1, .slice lo2 G.2.length lc2] 31) = W6) := hW6
    have H6 : Hid (∀ wx, Below W6.heap.size W6 wx → wx.heap[q2]? = some (.cells #[.int .i64 G.1, .slice lo2 G.2.length lc2] 31) ∧ HasPlaces wx (.slice lo2 G.2.length lc2) G.2 ∧ Below W0.heap.size W0 wx) := fun wx hx => by
      have g1 : W6.heap[q2]? = some (.cells #[.int .i64 G.1, .slice lo2 G.2.length lc2] 31) := by rw [← hW6, ← hq]; exact heap_newW _ _
      have g2 : Below w5.heap.size w5 W6 := by rw [← hW6]; exact (Below.refl _ _).alloc (Nat.le_refl _) _
      have g3 := btrH' g2 hx
      exact ⟨(hx.block _ (some_lt g1)).trans g1, hp.keep g3, btrH' HB4.out (btrH' hb g3)⟩
    have HQQ : Hid (q2 ≠ z + 1) := by show q2 ≠ z + 1; have := HS0.out; have := (btrH' HB4.out hb).size; omega
    clear hp hb hW6 c0 c1 c2 c3 c4 hG
    go_upto_region 5 with fail
    rw [HW6.out]
    clear HW6 hq
    obtain ⟨q0, q1, _, _⟩ := cell_two (H6.out W6 (Below.refl _ _)).1
    go_wp2_with fail
    refine (Hi.bad_calls G.1 lo2 G.2.length lc2 W6).mono ?_
    rintro e w7 ⟨rfl, hb⟩
    rw [bad_iff]
    have HB7 : Hid (Below W6.heap.size W6 w7) := hb
    clear hb q0 q1
    by_cases hn : G = (0, [])
    · have k1 : decide (G = (0, [])) = true := by simpa using hn
      have HN0 : Hid (nErr h.node.length s t = (0, [])) := by show _ = _; rw [HGG.out]; exact hn
      clear hn
      have HB8 : Hid (Below W0.heap.size W0 w7) := (H6.out w7 HB7.out).2.2
      obtain ⟨c0, c1, c2, c3, c4⟩ := five_cells (HQ.out w7 HB8.out).1
      go_wp2_with fail
      refine (HME.out w7 HB8.out HC.out HN0.out).mono ?_
      rintro e w9 ⟨r, d, F, fo, fc, hA, hF, rfl, hp, hb⟩
      have HAN : Hid (QAns h s t r d ∧ F = qErr h s t) := ⟨hA, hF⟩
      obtain ⟨_, g4, _, g5⟩ := HQ.out w9 (btrH' HB8.out hb)
      have HT : Hid (w9.heap[z + 1]? = some (.cells #[.int .i64 0, .slice none 0 0] 31) ∧ HasPlaces w9 (.slice fo F.2.length fc) F.2 ∧ Below w.heap.size w w9) := ⟨g4, hp, g5⟩
      clear hA hF hp hb c0 c1 c2 c3 c4 g4 g5
      obtain ⟨d0, d1, f0, f1⟩ := cell_two HT.out.1
      go_wp2
      exact bodyPost_ret (docMeet_res (set_err HT.out.1 _ _) rfl rfl rfl) rfl ⟨r, d, F, fo, fc, HAN.out.1, HAN.out.2, rfl, pl_sets (F := F) HT.out.1 HT.out.2.1 _ _, HSZ.out _ _ _ HT.out.2.2⟩
    · have k1 : decide (G = (0, [])) = false := by simpa using hn
      have HAN : Hid (QAns h s t 0 0 ∧ G = qErr h s t) := by
        have g := qErr_nodes (s := s) (t := t) HC.out (by rw [HGG.out]; exact hn)
        exact ⟨Or.inr ⟨Or.inl g.2, rfl, rfl⟩, by rw [g.1, HGG.out]⟩
      have HF4 : Hid (∀ wx, Below w7.heap.size w7 wx → wx.heap[q2]? = some (.cells #[.int .i64 G.1, .slice lo2 G.2.length lc2] 31) ∧ HasPlaces wx (.slice lo2 G.2.length lc2) G.2 ∧ wx.heap[z + 1]? = some (.cells #[.int .i64 0, .slice none 0 0] 31) ∧ Below w.heap.size w wx) := fun wx hx => by
        obtain ⟨g1, g2, g3⟩ := H6.out wx (btrH' HB7.out hx)
        obtain ⟨_, a2, _, a4⟩ := HQ.out wx g3
        exact ⟨g1, g2, a2, a4⟩
      clear hn
      go_wp2_with fail
      have HSS : Hid (∀ wx : World, wx.heap[q2]? = some (.cells #[.int .i64 G.1, .slice lo2 G.2.length lc2] 31) → (fun w' => w'.cell? ⟨q2, 0, none⟩ = some (.int .i64 G.1) ∧ w'.cell? ⟨q2, 1, none⟩ = some (.slice lo2 G.2.length lc2) ∧ Hid (w'.heap[q2]? = some (.cells #[.int .i64 G.1, .slice lo2 G.2.length lc2] 31))) wx) := fun wx hx => by
        obtain ⟨b0, b1, _, _⟩ := cell_two hx
        exact ⟨b0, b1, hx⟩
      refine wp_region_M (S := (fun w' => w'.cell? ⟨q2, 0, none⟩ = some (.int .i64 G.1) ∧ w'.cell? ⟨q2, 1, none⟩ = some (.slice lo2 G.2.length lc2) ∧ Hid (w'.heap[q2]? = some (.cells #[.int .i64 G.1, .slice lo2 G.2.length lc2] 31)))) (by kernel_rfl) (HSS.out _ (HF4.out _ (Below.refl _ _).drew).1) ?_
      refine wpAnyM_take (i := 0) (oi := { dst := Option.some 22, op := Op.load 31 (Operand.tmp 10), type := 31, pos := "ref.go:28", after := #[{ on := 2, ground := Ground.gcOnly Departure.lateStores }], guard := Option.none }) (v := ?vf4z0) rfl (by kernel_rfl) (by kernel_rfl) (by kernel_rfl) (fun _ _ _ h => h) (YieldsM.of_if (Or.inl ⟨by rfl, ?hf4z0⟩)) ?rf4z0
      case hf4z0 => ((intro wz hSw; (try dsimp only at hSw); go_simp); try (with_reducible rfl))
      try simp only [Act.put, List.setIfInBounds_toArray, List.set_cons_zero, List.set_cons_succ]
      refine wpAnyM_take (i := 1) (oi := { dst := Option.some 6, op := Op.assign (Operand.const (Value.int IntKind.i64 0)), type := 3, pos := "ref.go:28", after := #[{ on := 0, ground := Ground.textOnly Departure.lateStores }], guard := Option.none }) (v := ?vf5z1) rfl (by kernel_rfl) (by kernel_rfl) (by kernel_rfl) (fun _ _ _ h => h) (YieldsM.of_if (Or.inl ⟨by rfl, ?hf5z1⟩)) ?rf5z1
      case hf5z1 => ((intro wz hSw; (try dsimp only at hSw); go_simp); try (with_reducible rfl))
      try simp only [Act.put, List.setIfInBounds_toArray, List.set_cons_zero, List.set_cons_succ]
      refine wpAnyM_take (i := 2) (oi := { dst := Option.some 7, op := Op.assign (Operand.const (Value.int IntKind.u64 0)), type := 28, pos := "ref.go:28", after := #[{ on := 1, ground := Ground.chain }, { on := 0, ground := Ground.textOnly Departure.lateStores }, { on := 1, ground := Ground.phase }], guard := Option.none }) (v := ?vf6z2) rfl (by kernel_rfl) (by kernel_rfl) (by kernel_rfl) (fun _ _ _ h => h) (YieldsM.of_if (Or.inl ⟨by rfl, ?hf6z2⟩)) ?rf6z2
      case hf6z2 => ((intro wz hSw; (try dsimp only at hSw); go_simp); try (with_reducible rfl))
      try simp only [Act.put, List.setIfInBounds_toArray, List.set_cons_zero, List.set_cons_succ]
      refine readyM (i := 3) (o := { dst := Option.none, op := Op.store 31 (Operand.tmp 8) (Operand.tmp 22), type := 0, pos := "ref.go:28", after := #[{ on := 0, ground := Ground.data }, { on := 2, ground := Ground.chain }, { on := 0, ground := Ground.phase }, { on := 1, ground := Ground.phase }, { on := 2, ground := Ground.phase }], guard := Option.none }) rfl (by kernel_rfl) ?_
      intro u1 hg1 hS1 K hK
      obtain ⟨g1, g2, g4, g5⟩ := HF4.out u1 (btrH' (Below.refl _ _).drew hg1)
      obtain ⟨d0, d1, f0, f1⟩ := cell_two g4
      have HT : Hid (((u1.setCell ⟨z + 1, 0, none⟩ (.int .i64 G.1)).setCell ⟨z + 1, 1, none⟩ (.slice lo2 G.2.length lc2)).heap[z + 1]? = some (.cells #[.int .i64 G.1, .slice lo2 G.2.length lc2] 31) ∧ ((u1.setCell ⟨z + 1, 0, none⟩ (.int .i64 G.1)).setCell ⟨z + 1, 1, none⟩ (.slice lo2 G.2.length lc2)).heap[q2]? = some (.cells #[.int .i64 G.1, .slice lo2 G.2.length lc2] 31) ∧ HasPlaces ((u1.setCell ⟨z + 1, 0, none⟩ (.int .i64 G.1)).setCell ⟨z + 1, 1, none⟩ (.slice lo2 G.2.length lc2)) (.slice lo2 G.2.length lc2) G.2 ∧ Below w.heap.size w ((u1.setCell ⟨z + 1, 0, none⟩ (.int .i64 G.1)).setCell ⟨z + 1, 1, none⟩ (.slice lo2 G.2.length lc2))) := ⟨set_err g4 _ _, (Below.heap_setCell _ _ _ _ (by exact HQQ.out)).trans ((Below.heap_setCell _ _ _ _ (by exact HQQ.out)).trans g1), pl_sets (F := G) g4 g2 _ _, HSZ.out _ _ _ g5⟩
      clear hS1 g1 g2 g4 g5 hg1
      go_simp
      refine hK.out _ _ (HSS.out _ HT.out.2.1) ?_
      clear hK K d0 d1 f0 f1
      try simp only [Act.put, List.setIfInBounds_toArray, List.set_cons_zero, List.set_cons_succ]
      generalize ((u1.setCell ⟨z + 1, 0, none⟩ (.int .i64 G.1)).setCell ⟨z + 1, 1, none⟩ (.slice lo2 G.2.length lc2)) = U2 at HT ⊢
      refine wpAnyM_done (by kernel_rfl) ?_ _
      intro u9 hg9 hS9
      have H9 : Hid (u9.heap[z + 1]? = some (.cells #[.int .i64 G.1, .slice lo2 G.2.length lc2] 31) ∧ HasPlaces u9 (.slice lo2 G.2.length lc2) G.2 ∧ Below w.heap.size w u9) := ⟨(Below.block hg9 _ (some_lt HT.out.1)).trans HT.out.1, HT.out.2.2.1.keep hg9, HT.out.2.2.2.trans (hg9.mono HT.out.2.2.2.size)⟩
      clear hS9 hg9 HT
      go_wp2
      exact bodyPost_ret (docMeet_res H9.out.1 rfl rfl rfl) rfl ⟨0, 0, G, lo2, lc2, HAN.out.1, HAN.out.2, rfl, H9.out.2.1, H9.out.2.2⟩
  · have j1 : decide (E = (0, [])) = false := by simpa using hc
    have HAN : Hid (QAns h s t 0 0 ∧ E = qErr h s t) := ⟨Or.inr ⟨Or.inl (fun q => hc (by rw [← HE.out]; exact q.1)), rfl, rfl⟩, by rw [qErr_chk (by rw [HE.out]; exact hc), HE.out]⟩
    have HF4 : Hid (∀ wx, Below w3.heap.size w3 wx → wx.heap[q]? = some (.cells #[.int .i64 E.1, .slice lo E.2.length lc] 31) ∧ HasPlaces wx (.slice lo E.2.length lc) E.2 ∧ wx.heap[z + 1]? = some (.cells #[.int .i64 0, .slice none 0 0] 31) ∧ Below w.heap.size w wx) := fun wx hx => by
      obtain ⟨g1, g2, g3⟩ := H2.out wx (btrH' HB3.out hx)
      obtain ⟨_, a2, _, a4⟩ := HQ.out wx g3
      exact ⟨g1, g2, a2, a4⟩
    have HQQ : Hid (q ≠ z + 1) := HQ0.out
    clear hc
    go_wp2_with fail
    have HSS : Hid (∀ wx : World, wx.heap[q]? = some (.cells #[.int .i64 E.1, .slice lo E.2.length lc] 31) → (fun w' => w'.cell? ⟨q, 0, none⟩ = some (.int .i64 E.1) ∧ w'.cell? ⟨q, 1, none⟩ = some (.slice lo E.2.length lc) ∧ Hid (w'.heap[q]? = some (.cells #[.int .i64 E.1, .slice lo E.2.length lc] 31))) wx) := fun wx hx => by
      obtain ⟨b0, b1, _, _⟩ := cell_two hx
      exact ⟨b0, b1, hx⟩
    refine wp_region_M (S := (fun w' => w'.cell? ⟨q, 0, none⟩ = some (.int .i64 E.1) ∧ w'.cell? ⟨q, 1, none⟩ = some (.slice lo E.2.length lc) ∧ Hid (w'.heap[q]? = some (.cells #[.int .i64 E.1, .slice lo E.2.length lc] 31)))) (by kernel_rfl) (HSS.out _ (HF4.out _ (Below.refl _ _).drew).1) ?_
    refine wpAnyM_take (i := 0) (oi := { dst := Option.some 15, op := Op.load 31 (Operand.tmp 9), type := 31, pos := "ref.go:25", after := #[{ on := 2, ground := Ground.gcOnly Departure.lateStores }], guard := Option.none }) (v := ?ve1z0) rfl (by kernel_rfl) (by kernel_rfl) (by kernel_rfl) (fun _ _ _ h => h) (YieldsM.of_if (Or.inl ⟨by rfl, ?he1z0⟩)) ?re1z0
    case he1z0 => ((intro wz hSw; (try dsimp only at hSw); go_simp); try (with_reducible rfl))
    try simp only [Act.put, List.setIfInBounds_toArray, List.set_cons_zero, List.set_cons_succ]
    refine wpAnyM_take (i := 1) (oi := { dst := Option.some 6, op := Op.assign (Operand.const (Value.int IntKind.i64 0)), type := 3, pos := "ref.go:25", after := #[{ on := 0, ground := Ground.textOnly Departure.lateStores }], guard := Option.none }) (v := ?ve2z1) rfl (by kernel_rfl) (by kernel_rfl) (by kernel_rfl) (fun _ _ _ h => h) (YieldsM.of_if (Or.inl ⟨by rfl, ?he2z1⟩)) ?re2z1
    case he2z1 => ((intro wz hSw; (try dsimp only at hSw); go_simp); try (with_reducible rfl))
    try simp only [Act.put, List.setIfInBounds_toArray, List.set_cons_zero, List.set_cons_succ]
    refine wpAnyM_take (i := 2) (oi := { dst := Option.some 7, op := Op.assign (Operand.const (Value.int IntKind.u64 0)), type := 28, pos := "ref.go:25", after := #[{ on := 1, ground := Ground.chain }, { on := 0, ground := Ground.textOnly Departure.lateStores }, { on := 1, ground := Ground.phase }], guard := Option.none }) (v := ?ve3z2) rfl (by kernel_rfl) (by kernel_rfl) (by kernel_rfl) (fun _ _ _ h => h) (YieldsM.of_if (Or.inl ⟨by rfl, ?he3z2⟩)) ?re3z2
    case he3z2 => ((intro wz hSw; (try dsimp only at hSw); go_simp); try (with_reducible rfl))
    try simp only [Act.put, List.setIfInBounds_toArray, List.set_cons_zero, List.set_cons_succ]
    refine readyM (i := 3) (o := { dst := Option.none, op := Op.store 31 (Operand.tmp 8) (Operand.tmp 15), type := 0, pos := "ref.go:25", after := #[{ on := 0, ground := Ground.data }, { on := 2, ground := Ground.chain }, { on := 0, ground := Ground.phase }, { on := 1, ground := Ground.phase }, { on := 2, ground := Ground.phase }], guard := Option.none }) rfl (by kernel_rfl) ?_
    intro u1 hg1 hS1 K hK
    obtain ⟨g1, g2, g4, g5⟩ := HF4.out u1 (btrH' (Below.refl _ _).drew hg1)
    obtain ⟨d0, d1, f0, f1⟩ := cell_two g4
    have HT : Hid (((u1.setCell ⟨z + 1, 0, none⟩ (.int .i64 E.1)).setCell ⟨z + 1, 1, none⟩ (.slice lo E.2.length lc)).heap[z + 1]? = some (.cells #[.int .i64 E.1, .slice lo E.2.length lc] 31) ∧ ((u1.setCell ⟨z + 1, 0, none⟩ (.int .i64 E.1)).setCell ⟨z + 1, 1, none⟩ (.slice lo E.2.length lc)).heap[q]? = some (.cells #[.int .i64 E.1, .slice lo E.2.length lc] 31) ∧ HasPlaces ((u1.setCell ⟨z + 1, 0, none⟩ (.int .i64 E.1)).setCell ⟨z + 1, 1, none⟩ (.slice lo E.2.length lc)) (.slice lo E.2.length lc) E.2 ∧ Below w.heap.size w ((u1.setCell ⟨z + 1, 0, none⟩ (.int .i64 E.1)).setCell ⟨z + 1, 1, none⟩ (.slice lo E.2.length lc))) := ⟨set_err g4 _ _, (Below.heap_setCell _ _ _ _ (by exact HQQ.out)).trans ((Below.heap_setCell _ _ _ _ (by exact HQQ.out)).trans g1), pl_sets (F := E) g4 g2 _ _, HSZ.out _ _ _ g5⟩
    clear hS1 g1 g2 g4 g5 hg1
    go_simp
    refine hK.out _ _ (HSS.out _ HT.out.2.1) ?_
    clear hK K d0 d1 f0 f1
    try simp only [Act.put, List.setIfInBounds_toArray, List.set_cons_zero, List.set_cons_succ]
    generalize ((u1.setCell ⟨z + 1, 0, none⟩ (.int .i64 E.1)).setCell ⟨z + 1, 1, none⟩ (.slice lo E.2.length lc)) = U2 at HT ⊢
    refine wpAnyM_done (by kernel_rfl) ?_ _
    intro u9 hg9 hS9
    have H9 : Hid (u9.heap[z + 1]? = some (.cells #[.int .i64 E.1, .slice lo E.2.length lc] 31) ∧ HasPlaces u9 (.slice lo E.2.length lc) E.2 ∧ Below w.heap.size w u9) := ⟨(Below.block hg9 _ (some_lt HT.out.1)).trans HT.out.1, HT.out.2.2.1.keep hg9, HT.out.2.2.2.trans (hg9.mono HT.out.2.2.2.size)⟩
    clear hS9 hg9 HT
    go_wp2
    exact bodyPost_ret (docMeet_res H9.out.1 rfl rfl rfl) rfl ⟨0, 0, E, lo, lc, HAN.out.1, HAN.out.2, rfl, H9.out.2.1, H9.out.2.2⟩
theorem docMeet_calls (v : HV) (h : Hr) (s t : Int) (w : World) (hH : HasH w v h) (hb1 : h.up.length ≤ 1152921504606846976) (hb2 : h.dn.length ≤ 1152921504606846976) (hb3 : h.node.length ≤ 1152921504606846976) :
    Calls Tryz.prog 7 #[hvl v h, .int .i64 s, .int .i64 t] w fun e w' => MA h s t w e w' :=
  docMeet_aux v.no v.uo v.ul v.wo v.dl v.nc v.uc v.ulc v.wc v.dlc h s t w hH hb1 hb2 hb3
theorem MR.ans {h : Hr} {s t : Int} {r : Nat} {d : Int} {u : Value} (m : MR h s t r d u) : QAns h s t r d := by
  rcases m with ⟨a, b, _⟩ | ⟨a, b, c, _⟩
  · exact Or.inl ⟨a, b⟩
  · exact Or.inr ⟨a, b, c⟩
theorem ferr_lenQ {p : Int} {f : Nat → Int} : ∀ (m k : Nat), (ferr p f k m).2.length ≤ 1
  | 0, _ => by simp [ferr]
  | m + 1, k => by
    unfold ferr
    split
    · exact ferr_lenQ m (k + 1)
    · simp
theorem orE_lenQ {a b : Int × List (Int × Int)} (ha : a.2.length ≤ 1) (hb : b.2.length ≤ 1) : (orE a b).2.length ≤ 1 := by
  unfold orE
  split
  · exact hb
  · exact ha
theorem cf_lenQ (F : List Nat) (m : Nat) : (cf F m).2.length ≤ 1 := by
  unfold cf
  split
  · simp
  · refine orE_lenQ (ferr_lenQ _ _) ?_
    split <;> simp
theorem chk_placesQ (h : Hr) : (chk h).2.length ≤ 1 := by
  unfold chk
  split
  · simp
  · split
    · simp
    · exact orE_lenQ (cf_lenQ _ _) (orE_lenQ (cf_lenQ _ _) (orE_lenQ (ferr_lenQ _ _) (ferr_lenQ _ _)))
theorem qErr_places (h : Hr) (s t : Int) : (qErr h s t).2.length ≤ maxLen := by
  refine Nat.le_trans (m := 1) ?_ (by decide)
  by_cases hc : chk h = (0, [])
  · by_cases g1 : 0 ≤ s ∧ s < (h.node.length : Int)
    · by_cases g2 : 0 ≤ t ∧ t < (h.node.length : Int)
      · cases hm : meetL h s.toNat t.toNat with
        | none => rw [qErr_no ⟨hc, g1, g2⟩ hm]; simp
        | some x => rw [qErr_ok ⟨hc, g1, g2⟩ hm]; simp
      · rw [qErr_t hc g1 g2]; simp
    · rw [qErr_s hc g1]; simp
  · rw [qErr_chk hc]; exact chk_placesQ h
end Go.Proofs.YthcdkokgfnidiaaGreatDoor.Qy

namespace Go.Proofs.YthcdkokgfnidiaaGreatDoor.Qy
open Go.RowKit Go.Extern Go.Shelf Hi Cb

attribute [local go_sem] Oper.semAt_some

set_option maxRecDepth 100000 in
set_option maxHeartbeats 16000000 in
theorem memory_aux (no uo ul wo dl : Option Addr) (nc uc ulc wc dlc : Nat) (h : Hr) (lo : Option Addr) (lc : Nat) (l : List Int) (w : World) (hty : HasType w) (hH : HasH w ⟨no, uo, ul, wo, dl, nc, uc, ulc, wc, dlc⟩ h) (hr : Hi.Reach h) (hl : HasInts w (.slice lo l.length lc) l) :
    Calls Tryz.prog 4 #[hvl ⟨no, uo, ul, wo, dl, nc, uc, ulc, wc, dlc⟩ h, .slice lo l.length lc] w fun e w' => e = .returned (.bool true) ∧ Below w.heap.size w w' := by
  have hb1 : h.up.length ≤ 1152921504606846976 := by have := hr.up; omega
  have hb2 : h.dn.length ≤ 1152921504606846976 := by have := hr.dn; omega
  have hb3 : h.node.length ≤ 1152921504606846976 := by have := hr.node; omega
  have HTY : Hid (∀ wx, Below w.heap.size w wx → HasType wx) := fun wx h => hty.keep h hty.pos
  obtain ⟨z, hz⟩ : ∃ z, w.heap.size = z := ⟨_, rfl⟩
  obtain ⟨W0, hW0⟩ : ∃ W0, w.alloc (.cells #[.slice no h.node.length nc, .slice uo h.upF.length uc, .slice ul h.up.length ulc, .slice wo h.dnF.length wc, .slice dl h.dn.length dlc] 25) = W0 := ⟨_, rfl⟩
  have HQ : Hid (∀ wx, Below W0.heap.size W0 wx → (wx.cell? ⟨z, 0, none⟩ = some (.slice no h.node.length nc) ∧ wx.cell? ⟨z, 1, none⟩ = some (.slice uo h.upF.length uc) ∧ wx.cell? ⟨z, 2, none⟩ = some (.slice ul h.up.length ulc) ∧ wx.cell? ⟨z, 3, none⟩ = some (.slice wo h.dnF.length wc) ∧ wx.cell? ⟨z, 4, none⟩ = some (.slice dl h.dn.length dlc)) ∧ HasH wx ⟨no, uo, ul, wo, dl, nc, uc, ulc, wc, dlc⟩ h ∧ Below w.heap.size w wx ∧ HasInts wx (.slice lo l.length lc) l) := fun wx hx => by
    have h1 : W0.heap[z]? = some (.cells #[.slice no h.node.length nc, .slice uo h.upF.length uc, .slice ul h.up.length ulc, .slice wo h.dnF.length wc, .slice dl h.dn.length dlc] 25) := by rw [← hW0, ← hz]; exact heap_newW _ _
    have h2 : Below w.heap.size w W0 := by rw [← hW0]; exact (Below.refl _ _).alloc (Nat.le_refl _) _
    have h3 := btrH' h2 hx
    exact ⟨five_cells ((hx.block _ (some_lt h1)).trans h1), hH.keep h3, h3, hl.keep h3⟩
  have HW0 : Hid (w.alloc (.cells #[.slice no h.node.length nc, .slice uo h.upF.length uc, .slice ul h.up.length ulc, .slice wo h.dnF.length wc, .slice dl h.dn.length dlc] 25) = W0) := hW0
  have HGR : Hid (∀ wx, Calls Tryz.prog 6 #[hvl ⟨no, uo, ul, wo, dl, nc, uc, ulc, wc, dlc⟩ h] wx fun e w' => e = .returned (.bool (greatB h)) ∧ Below wx.heap.size wx w') := fun wx => great21_calls _ h wx hb1 hb2
  have HTW : Hid (∀ wx, Below W0.heap.size W0 wx → Calls Tryz.prog 9 #[hvl ⟨no, uo, ul, wo, dl, nc, uc, ulc, wc, dlc⟩ h] wx fun e w' => ∃ u, e = .returned (hvl u h) ∧ HasH w' u h ∧ Below wx.heap.size wx w') := fun wx hx => twin_calls _ h wx (HQ.out wx hx).2.1 hr
  have HDM : Hid (∀ (s t : Int) wx, Below W0.heap.size W0 wx → Calls Tryz.prog 7 #[hvl ⟨no, uo, ul, wo, dl, nc, uc, ulc, wc, dlc⟩ h, .int .i64 s, .int .i64 t] wx fun e w' => MA h s t wx e w') := fun s t wx hx => docMeet_calls _ h s t wx (HQ.out wx hx).2.1 hb1 hb2 hb3
  have HPD : Hid (∀ (u : HV) (s t : Int) (wx : World), HasH wx u h → Calls Tryz.prog 8 #[hvl u h, .int .i64 s, .int .i64 t] wx fun e w' => ∃ (r : Nat) (d : Int) (g : Value), (MR h s t r d g ∧ IsTold w' (qErr h s t) g) ∧ e = .returned (.tuple #[.int .u64 d, g]) ∧ Below wx.heap.size wx w') := fun u s t wx hx => dist_calls u h s t wx hx hb1 hb2 hb3
  have HSM : Hid (∀ (u : HV) (wx : World), Below W0.heap.size W0 wx → HasH wx u h → Calls Tryz.prog 12 #[hvl u h, hvl ⟨no, uo, ul, wo, dl, nc, uc, ulc, wc, dlc⟩ h] wx fun e w' => e = .returned (.bool true) ∧ Below wx.heap.size wx w') := fun u wx hx hh => by
    have g := tSame_calls u ⟨no, uo, ul, wo, dl, nc, uc, ulc, wc, dlc⟩ h h wx hh (HQ.out wx hx).2.1 hr.short
    rw [decide_eq_true rfl] at g
    exact g
  clear hW0 hH hty hr hl
  have eHV : hvl ⟨no, uo, ul, wo, dl, nc, uc, ulc, wc, dlc⟩ h = .agg #[.slice no h.node.length nc, .slice uo h.upF.length uc, .slice ul h.up.length ulc, .slice wo h.dnF.length wc, .slice dl h.dn.length dlc] := rfl
  rw [eHV] at HGR HTW HDM HSM ⊢
  clear eHV
  go_enter Tryz.func4, Tryz.ntmps4
  go_wp2_with fail
  rw [HW0.out]
  refine (awake21_calls W0).mono ?_
  rintro e w1 ⟨rfl, hb⟩
  have HB1 : Hid (Below W0.heap.size W0 w1) := hb
  clear hb
  obtain ⟨c0, c1, c2, c3, c4⟩ := (HQ.out w1 HB1.out).1
  go_wp2_with fail
  refine (HGR.out w1).mono ?_
  rintro e w2 ⟨rfl, hb⟩
  have HB2 : Hid (Below W0.heap.size W0 w2) := btrH' HB1.out hb
  clear hb c0 c1 c2 c3 c4
  obtain ⟨c0, c1, c2, c3, c4⟩ := (HQ.out w2 HB2.out).1
  by_cases hgr : greatB h = true
  · rw [hgr]
    go_wp2
    go_ret
    exact ⟨rfl, (HQ.out w2 HB2.out).2.2.1⟩
  rw [Bool.not_eq_true] at hgr
  rw [hgr]
  by_cases h20 : 20 < l.length
  · have d1 : decide ((l.length : Int) > 20) = true := by simp; omega
    have d2 : decide (20 < l.length) = true := by simpa using h20
    go_wp2
    go_ret
    exact ⟨rfl, (HQ.out w2 HB2.out).2.2.1⟩
  have d1 : decide ((l.length : Int) > 20) = false := by simp; omega
  have d2 : decide (20 < l.length) = false := by simpa using h20
  go_wp2_with fail
  refine (HTW.out w2 HB2.out).mono ?_
  rintro e w3 ⟨u, rfl, hh, hb⟩
  obtain ⟨no', uo', ul', wo', dl', nc', uc', ulc', wc', dlc'⟩ := u
  obtain ⟨p, hp⟩ : ∃ p, w3.heap.size = p := ⟨_, rfl⟩
  obtain ⟨W4, hW4⟩ : ∃ W4, w3.alloc (.cells #[.slice no' h.node.length nc', .slice uo' h.upF.length uc', .slice ul' h.up.length ulc', .slice wo' h.dnF.length wc', .slice dl' h.dn.length dlc'] 25) = W4 := ⟨_, rfl⟩
  have HW4 : Hid (w3.alloc (.cells #[.slice no' h.node.length nc', .slice uo' h.upF.length uc', .slice ul' h.up.length ulc', .slice wo' h.dnF.length wc', .slice dl' h.dn.length dlc'] 25) = W4) := hW4
  have H4 : Hid (∀ wx, Below W4.heap.size W4 wx → (wx.cell? ⟨p, 0, none⟩ = some (.slice no' h.node.length nc') ∧ wx.cell? ⟨p, 1, none⟩ = some (.slice uo' h.upF.length uc') ∧ wx.cell? ⟨p, 2, none⟩ = some (.slice ul' h.up.length ulc') ∧ wx.cell? ⟨p, 3, none⟩ = some (.slice wo' h.dnF.length wc') ∧ wx.cell? ⟨p, 4, none⟩ = some (.slice dl' h.dn.length dlc')) ∧ HasH wx ⟨no', uo', ul', wo', dl', nc', uc', ulc', wc', dlc'⟩ h ∧ Below W0.heap.size W0 wx) := fun wx hx => by
    have g1 : W4.heap[p]? = some (.cells #[.slice no' h.node.length nc', .slice uo' h.upF.length uc', .slice ul' h.up.length ulc', .slice wo' h.dnF.length wc', .slice dl' h.dn.length dlc'] 25) := by rw [← hW4, ← hp]; exact heap_newW _ _
    have g2 : Below w3.heap.size w3 W4 := by rw [← hW4]; exact (Below.refl _ _).alloc (Nat.le_refl _) _
    have g3 := btrH' g2 hx
    exact ⟨five_cells ((hx.block _ (some_lt g1)).trans g1), hh.keep g3, btrH' HB2.out (btrH' hb g3)⟩
  have eUV : hvl ⟨no', uo', ul', wo', dl', nc', uc', ulc', wc', dlc'⟩ h = .agg #[.slice no' h.node.length nc', .slice uo' h.upF.length uc', .slice ul' h.up.length ulc', .slice wo' h.dnF.length wc', .slice dl' h.dn.length dlc'] := rfl
  have HPD' := HPD.out ⟨no', uo', ul', wo', dl', nc', uc', ulc', wc', dlc'⟩
  have HSM' := HSM.out ⟨no', uo', ul', wo', dl', nc', uc', ulc', wc', dlc'⟩
  rw [eUV] at HPD' HSM' ⊢
  have HAD : Hid (type_of% HPD') := HPD'
  have HAS : Hid (type_of% HSM') := HSM'
  clear HPD' HSM' eUV HPD HSM hh hb hW4 c0 c1 c2 c3 c4 d1 d2
  go_upto_region 6 with fail
  rw [HW4.out]
  clear HW4 hp
  go_wp2_with fail
  go_loopw [23] (fun iv wr => ∃ r : Nat, r ≤ 2 ∧ iv = .int .i64 r ∧ Hid (Below W4.heap.size W4 wr)) (fun iv _ => 2 - (intOf iv).toNat)
  case atStart => exact ⟨0, by omega, rfl, Below.refl _ _⟩
  case round =>
    obtain ⟨r, hr, rfl, HBr⟩ := hrel
    rcases Nat.lt_or_eq_of_le hr with h1 | h1
    · have q6 : decide ((r : Int) < 2) = true := by simp; omega
      have q6n : decide (r < 2) = true := by simp; omega
      go_wp2_with fail
      go_loopw [6] (fun iv wr => ∃ i : Nat, 1 ≤ i ∧ i ≤ l.length + 1 ∧ iv = .int .i64 i ∧ Hid (Below W4.heap.size W4 wr)) (fun iv _ => l.length + 1 - (intOf iv).toNat)
      case atStart => exact ⟨1, Nat.le_refl _, by omega, rfl, HBr.out⟩
      case round =>
        obtain ⟨i, hi0, hi1, rfl, HB⟩ := hrel
        by_cases h2 : i < l.length
        · have q8 : decide ((i : Int) < (l.length : Int)) = true := by simp; omega
          have q8n : decide (i < l.length) = true := by simp; omega
          obtain ⟨i', hi'⟩ : ∃ i', i - 1 = i' := ⟨_, rfl⟩
          obtain ⟨a, ha⟩ : ∃ a, l[i']? = some a := ⟨_, List.getElem?_eq_getElem (by omega)⟩
          obtain ⟨b, hb⟩ : ∃ b, l[i]? = some b := ⟨_, List.getElem?_eq_getElem h2⟩
          generalize hWW : wr = WR at *
          clear hWW
          obtain ⟨lb, loff, e1, _, _⟩ := (HQ.out WR (H4.out WR HB.out).2.2).2.2.2.at ha
          have HLI : Hid (∀ wx, Below W0.heap.size W0 wx → wx.cell? ⟨lb, loff + i', none⟩ = some (.int .i64 a) ∧ wx.cell? ⟨lb, loff + i, none⟩ = some (.int .i64 b)) := fun wx hx => by
            obtain ⟨lb1, lof1, f1, _, g1⟩ := (HQ.out wx hx).2.2.2.at ha
            obtain ⟨lb2, lof2, f2, _, g2⟩ := (HQ.out wx hx).2.2.2.at hb
            have f3 := e1.symm.trans f1
            have f4 := e1.symm.trans f2
            cases f3
            cases f4
            exact ⟨g1, g2⟩
          subst e1
          have i2 : (0 : Int) ≤ (i : Int) := by omega
          have i3 : (i : Int) < (l.length : Int) := by omega
          have i4 : IntKind.i64.wrap ((i : Int) - 1) = (i' : Int) := by rw [IntKind.wrap_i64]; omega
          have i5 : (0 : Int) ≤ (i' : Int) := by omega
          have i6 : (i' : Int) < (l.length : Int) := by omega
          have HII : Hid (i - 1 = i') := hi'
          clear hi' ha hb
          go_wp2_with fail
          have HS11 : Hid (∀ wx, Below WR.heap.size WR wx → (fun w' => w'.cell? ⟨p, 0, none⟩ = some (.slice no' h.node.length nc') ∧ w'.cell? ⟨p, 1, none⟩ = some (.slice uo' h.upF.length uc') ∧ w'.cell? ⟨p, 2, none⟩ = some (.slice ul' h.up.length ulc') ∧ w'.cell? ⟨p, 3, none⟩ = some (.slice wo' h.dnF.length wc') ∧ w'.cell? ⟨p, 4, none⟩ = some (.slice dl' h.dn.length dlc') ∧ w'.cell? ⟨lb, loff + i', none⟩ = some (.int .i64 a) ∧ w'.cell? ⟨lb, loff + i, none⟩ = some (.int .i64 b) ∧ Hid (Below WR.heap.size WR w')) wx) := fun wx hx => by
            obtain ⟨⟨c0, c1, c2, c3, c4⟩, _, g3⟩ := H4.out wx (btrH' HB.out hx)
            obtain ⟨g4, g5⟩ := HLI.out wx g3
            exact ⟨c0, c1, c2, c3, c4, g4, g5, hx⟩
          refine wp_region_M (S := (fun w' => w'.cell? ⟨p, 0, none⟩ = some (.slice no' h.node.length nc') ∧ w'.cell? ⟨p, 1, none⟩ = some (.slice uo' h.upF.length uc') ∧ w'.cell? ⟨p, 2, none⟩ = some (.slice ul' h.up.length ulc') ∧ w'.cell? ⟨p, 3, none⟩ = some (.slice wo' h.dnF.length wc') ∧ w'.cell? ⟨p, 4, none⟩ = some (.slice dl' h.dn.length dlc') ∧ w'.cell? ⟨lb, loff + i', none⟩ = some (.int .i64 a) ∧ w'.cell? ⟨lb, loff + i, none⟩ = some (.int .i64 b) ∧ Hid (Below WR.heap.size WR w'))) (by kernel_rfl) (HS11.out _ (Below.refl _ _).drew) ?_
          refine wpAnyM_take (i := 0) (oi := { dst := Option.some 32, op := Op.load 25 (Operand.tmp 5), type := 25, pos := "law.go:199", after := #[], guard := Option.none }) (v := ?va18z0) rfl (by kernel_rfl) (by kernel_rfl) (by kernel_rfl) (fun _ _ _ h => h) (YieldsM.of_if (Or.inl ⟨by rfl, ?ha18z0⟩)) ?ra18z0
          case ha18z0 => ((intro wz hSw; (try dsimp only at hSw); go_simp); try (with_reducible rfl))
          try simp only [Act.put, List.setIfInBounds_toArray, List.set_cons_zero, List.set_cons_succ]
          refine wpAnyM_take (i := 1) (oi := { dst := Option.some 33, op := Op.move (Operand.tmp 1), type := 43, pos := "law.go:199", after := #[], guard := Option.none }) (v := ?va19z1) rfl (by kernel_rfl) (by kernel_rfl) (by kernel_rfl) (fun _ _ _ h => h) (YieldsM.of_if (Or.inl ⟨by rfl, ?ha19z1⟩)) ?ra19z1
          case ha19z1 => ((intro wz hSw; (try dsimp only at hSw); go_simp); try (with_reducible rfl))
          try simp only [Act.put, List.setIfInBounds_toArray, List.set_cons_zero, List.set_cons_succ]
          refine wpAnyM_take (i := 2) (oi := { dst := Option.some 34, op := Op.move (Operand.tmp 6), type := 3, pos := "law.go:199", after := #[], guard := Option.none }) (v := ?va20z2) rfl (by kernel_rfl) (by kernel_rfl) (by kernel_rfl) (fun _ _ _ h => h) (YieldsM.of_if (Or.inl ⟨by rfl, ?ha20z2⟩)) ?ra20z2
          case ha20z2 => ((intro wz hSw; (try dsimp only at hSw); go_simp); try (with_reducible rfl))
          try simp only [Act.put, List.setIfInBounds_toArray, List.set_cons_zero, List.set_cons_succ]
          refine wpAnyM_take (i := 3) (oi := { dst := Option.some 35, op := Op.binOp BinOp.sub 3 (Operand.tmp 34) (Operand.const (Value.int IntKind.i64 1)) 3, type := 3, pos := "law.go:199", after := #[{ on := 2, ground := Ground.data }], guard := Option.none }) (v := ?va21z3) rfl (by kernel_rfl) (by kernel_rfl) (by kernel_rfl) (fun _ _ _ h => h) (YieldsM.of_if (Or.inl ⟨by rfl, ?ha21z3⟩)) ?ra21z3
          case ha21z3 => ((intro wz hSw; (try dsimp only at hSw); go_simp); try (with_reducible rfl))
          try simp only [Act.put, List.setIfInBounds_toArray, List.set_cons_zero, List.set_cons_succ]
          refine wpAnyM_take (i := 4) (oi := { dst := Option.some 36, op := Op.indexAddr 43 (Operand.tmp 33) (Operand.tmp 35), type := 0, pos := "law.go:199", after := #[{ on := 1, ground := Ground.data }, { on := 3, ground := Ground.data }], guard := Option.none }) (v := ?va22z4) rfl (by kernel_rfl) (by kernel_rfl) (by kernel_rfl) (fun _ _ _ h => h) (YieldsM.of_if (Or.inl ⟨by rfl, ?ha22z4⟩)) ?ra22z4
          case ha22z4 => ((intro wz hSw; (try dsimp only at hSw); go_simp); try (with_reducible rfl))
          try simp only [Act.put, List.setIfInBounds_toArray, List.set_cons_zero, List.set_cons_succ]
          refine wpAnyM_take (i := 5) (oi := { dst := Option.some 37, op := Op.load 3 (Operand.tmp 36), type := 3, pos := "law.go:199", after := #[{ on := 4, ground := Ground.data }], guard := Option.none }) (v := ?va23z5) rfl (by kernel_rfl) (by kernel_rfl) (by kernel_rfl) (fun _ _ _ h => h) (YieldsM.of_if (Or.inl ⟨by rfl, ?ha23z5⟩)) ?ra23z5
          case ha23z5 => ((intro wz hSw; (try dsimp only at hSw); go_simp); try (with_reducible rfl))
          try simp only [Act.put, List.setIfInBounds_toArray, List.set_cons_zero, List.set_cons_succ]
          refine wpAnyM_take (i := 6) (oi := { dst := Option.some 38, op := Op.move (Operand.tmp 1), type := 43, pos := "law.go:199", after := #[], guard := Option.none }) (v := ?va24z6) rfl (by kernel_rfl) (by kernel_rfl) (by kernel_rfl) (fun _ _ _ h => h) (YieldsM.of_if (Or.inl ⟨by rfl, ?ha24z6⟩)) ?ra24z6
          case ha24z6 => ((intro wz hSw; (try dsimp only at hSw); go_simp); try (with_reducible rfl))
          try simp only [Act.put, List.setIfInBounds_toArray, List.set_cons_zero, List.set_cons_succ]
          refine wpAnyM_take (i := 7) (oi := { dst := Option.some 39, op := Op.move (Operand.tmp 6), type := 3, pos := "law.go:199", after := #[], guard := Option.none }) (v := ?va25z7) rfl (by kernel_rfl) (by kernel_rfl) (by kernel_rfl) (fun _ _ _ h => h) (YieldsM.of_if (Or.inl ⟨by rfl, ?ha25z7⟩)) ?ra25z7
          case ha25z7 => ((intro wz hSw; (try dsimp only at hSw); go_simp); try (with_reducible rfl))
          try simp only [Act.put, List.setIfInBounds_toArray, List.set_cons_zero, List.set_cons_succ]
          refine wpAnyM_take (i := 8) (oi := { dst := Option.some 40, op := Op.indexAddr 43 (Operand.tmp 38) (Operand.tmp 39), type := 0, pos := "law.go:199", after := #[{ on := 6, ground := Ground.data }, { on := 7, ground := Ground.data }], guard := Option.none }) (v := ?va26z8) rfl (by kernel_rfl) (by kernel_rfl) (by kernel_rfl) (fun _ _ _ h => h) (YieldsM.of_if (Or.inl ⟨by rfl, ?ha26z8⟩)) ?ra26z8
          case ha26z8 => ((intro wz hSw; (try dsimp only at hSw); go_simp); try (with_reducible rfl))
          try simp only [Act.put, List.setIfInBounds_toArray, List.set_cons_zero, List.set_cons_succ]
          refine wpAnyM_take (i := 9) (oi := { dst := Option.some 41, op := Op.load 3 (Operand.tmp 40), type := 3, pos := "law.go:199", after := #[{ on := 8, ground := Ground.data }], guard := Option.none }) (v := ?va27z9) rfl (by kernel_rfl) (by kernel_rfl) (by kernel_rfl) (fun _ _ _ h => h) (YieldsM.of_if (Or.inl ⟨by rfl, ?ha27z9⟩)) ?ra27z9
          case ha27z9 => ((intro wz hSw; (try dsimp only at hSw); go_simp); try (with_reducible rfl))
          try simp only [Act.put, List.setIfInBounds_toArray, List.set_cons_zero, List.set_cons_succ]
          refine readyM (i := 10) (o := { dst := Option.some 42, op := Op.call { callee := Callee.value (Operand.func 8), args := #[Operand.tmp 32, Operand.tmp 37, Operand.tmp 41], argTypes := #[25, 3, 3] }, type := 36, pos := "law.go:199", after := #[{ on := 0, ground := Ground.data }, { on := 5, ground := Ground.data }, { on := 9, ground := Ground.data }], guard := Option.none }) rfl (by kernel_rfl) ?_
          intro u0 hg0 hS0 K hK
          have hf0 := H4.out u0 (btrH' HB.out (btrH' (Below.refl _ _).drew hg0))
          clear hS0
          go_simp
          refine (HAD.out a b u0 hf0.2.1).mono ?_
          rintro e v0 ⟨r6, d6, g6, ⟨hm, htl⟩, rfl, hb0⟩
          have HV0 : Hid (Below WR.heap.size WR v0) := btrH' (btrH' (Below.refl _ _).drew hg0) hb0
          have HMR : Hid (QAns h a b r6 d6) := hm.ans
          have HT6 : Hid (IsTold v0 (qErr h a b) g6) := htl
          clear hm htl hb0 hg0 hf0
          go_wp2_with fail
          refine hK.out _ _ (HS11.out _ HV0.out) ?_
          clear hK K
          try simp only [Act.put, List.setIfInBounds_toArray, List.set_cons_zero, List.set_cons_succ]
          refine wpAnyM_take (i := 11) (oi := { dst := Option.some 31, op := Op.move (Operand.tmp 42), type := 36, pos := "law.go:199", after := #[{ on := 10, ground := Ground.data }], guard := Option.none }) (v := ?vb13z11) rfl (by kernel_rfl) (by kernel_rfl) (by kernel_rfl) (fun _ _ _ h => h) (YieldsM.of_if (Or.inl ⟨by rfl, ?hb13z11⟩)) ?rb13z11
          case hb13z11 => ((intro wz hSw; (try dsimp only at hSw); go_simp); try (with_reducible rfl))
          try simp only [Act.put, List.setIfInBounds_toArray, List.set_cons_zero, List.set_cons_succ]
          refine wpAnyM_take (i := 12) (oi := { dst := Option.some 43, op := Op.extract (Operand.tmp 31) 0, type := 28, pos := "law.go:199", after := #[{ on := 11, ground := Ground.data }], guard := Option.none }) (v := ?vb14z12) rfl (by kernel_rfl) (by kernel_rfl) (by kernel_rfl) (fun _ _ _ h => h) (YieldsM.of_if (Or.inl ⟨by rfl, ?hb14z12⟩)) ?rb14z12
          case hb14z12 => ((intro wz hSw; (try dsimp only at hSw); go_simp); try (with_reducible rfl))
          try simp only [Act.put, List.setIfInBounds_toArray, List.set_cons_zero, List.set_cons_succ]
          refine wpAnyM_take (i := 13) (oi := { dst := Option.some 44, op := Op.extract (Operand.tmp 31) 1, type := 35, pos := "law.go:199", after := #[{ on := 11, ground := Ground.data }, { on := 14, ground := Ground.gcOnly Departure.lateStores }], guard := Option.none }) (v := ?vb15z13) rfl (by kernel_rfl) (by kernel_rfl) (by kernel_rfl) (fun _ _ _ h => h) (YieldsM.of_if (Or.inl ⟨by rfl, ?hb15z13⟩)) ?rb15z13
          case hb15z13 => ((intro wz hSw; (try dsimp only at hSw); go_simp); try (with_reducible rfl))
          try simp only [Act.put, List.setIfInBounds_toArray, List.set_cons_zero, List.set_cons_succ]
          refine wpAnyM_take (i := 14) (oi := { dst := Option.some 7, op := Op.assign (Operand.tmp 43), type := 28, pos := "law.go:199", after := #[{ on := 12, ground := Ground.data }, { on := 10, ground := Ground.chain }, { on := 0, ground := Ground.phase }, { on := 1, ground := Ground.phase }, { on := 2, ground := Ground.phase }, { on := 3, ground := Ground.phase }, { on := 4, ground := Ground.phase }, { on := 5, ground := Ground.phase }, { on := 6, ground := Ground.phase }, { on := 7, ground := Ground.phase }, { on := 8, ground := Ground.phase }, { on := 9, ground := Ground.phase }, { on := 10, ground := Ground.phase }, { on := 11, ground := Ground.phase }, { on := 12, ground := Ground.phase }, { on := 13, ground := Ground.textOnly Departure.lateStores }], guard := Option.none }) (v := ?vb16z14) rfl (by kernel_rfl) (by kernel_rfl) (by kernel_rfl) (fun _ _ _ h => h) (YieldsM.of_if (Or.inl ⟨by rfl, ?hb16z14⟩)) ?rb16z14
          case hb16z14 => ((intro wz hSw; (try dsimp only at hSw); go_simp); try (with_reducible rfl))
          try simp only [Act.put, List.setIfInBounds_toArray, List.set_cons_zero, List.set_cons_succ]
          refine wpAnyM_take (i := 15) (oi := { dst := Option.some 8, op := Op.assign (Operand.tmp 44), type := 35, pos := "law.go:199", after := #[{ on := 13, ground := Ground.data }, { on := 14, ground := Ground.chain }, { on := 0, ground := Ground.phase }, { on := 1, ground := Ground.phase }, { on := 2, ground := Ground.phase }, { on := 3, ground := Ground.phase }, { on := 4, ground := Ground.phase }, { on := 5, ground := Ground.phase }, { on := 6, ground := Ground.phase }, { on := 7, ground := Ground.phase }, { on := 8, ground := Ground.phase }, { on := 9, ground := Ground.phase }, { on := 10, ground := Ground.phase }, { on := 11, ground := Ground.phase }, { on := 12, ground := Ground.phase }, { on := 13, ground := Ground.phase }, { on := 14, ground := Ground.phase }], guard := Option.none }) (v := ?vb17z15) rfl (by kernel_rfl) (by kernel_rfl) (by kernel_rfl) (fun _ _ _ h => h) (YieldsM.of_if (Or.inl ⟨by rfl, ?hb17z15⟩)) ?rb17z15
          case hb17z15 => ((intro wz hSw; (try dsimp only at hSw); go_simp); try (with_reducible rfl))
          try simp only [Act.put, List.setIfInBounds_toArray, List.set_cons_zero, List.set_cons_succ]
          refine wpAnyM_done (by kernel_rfl) ?_ _
          intro U9 hg9 hS9
          have HB9 : Hid (Below W4.heap.size W4 U9) := btrH' (btrH' HB.out HV0.out) hg9
          have HT9 : Hid (∀ wx, Below U9.heap.size U9 wx → IsTold wx (qErr h a b) g6 ∧ Below W4.heap.size W4 wx) := fun wx hx => ⟨HT6.out.keep (Below.keeps (btrH' hg9 hx)), btrH' HB9.out hx⟩
          clear hS9 hg9 HT6 HV0 HS11
          go_wp2_with fail
          have HS12 : Hid (∀ wx, Below U9.heap.size U9 wx → (fun w' => w'.cell? ⟨z, 0, none⟩ = some (.slice no h.node.length nc) ∧ w'.cell? ⟨z, 1, none⟩ = some (.slice uo h.upF.length uc) ∧ w'.cell? ⟨z, 2, none⟩ = some (.slice ul h.up.length ulc) ∧ w'.cell? ⟨z, 3, none⟩ = some (.slice wo h.dnF.length wc) ∧ w'.cell? ⟨z, 4, none⟩ = some (.slice dl h.dn.length dlc) ∧ w'.cell? ⟨lb, loff + i', none⟩ = some (.int .i64 a) ∧ w'.cell? ⟨lb, loff + i, none⟩ = some (.int .i64 b) ∧ Hid (Below U9.heap.size U9 w')) wx) := fun wx hx => by
            have g3 := (H4.out wx (HT9.out wx hx).2).2.2
            obtain ⟨c0, c1, c2, c3, c4⟩ := (HQ.out wx g3).1
            obtain ⟨g4, g5⟩ := HLI.out wx g3
            exact ⟨c0, c1, c2, c3, c4, g4, g5, hx⟩
          refine wp_region_M (S := (fun w' => w'.cell? ⟨z, 0, none⟩ = some (.slice no h.node.length nc) ∧ w'.cell? ⟨z, 1, none⟩ = some (.slice uo h.upF.length uc) ∧ w'.cell? ⟨z, 2, none⟩ = some (.slice ul h.up.length ulc) ∧ w'.cell? ⟨z, 3, none⟩ = some (.slice wo h.dnF.length wc) ∧ w'.cell? ⟨z, 4, none⟩ = some (.slice dl h.dn.length dlc) ∧ w'.cell? ⟨lb, loff + i', none⟩ = some (.int .i64 a) ∧ w'.cell? ⟨lb, loff + i, none⟩ = some (.int .i64 b) ∧ Hid (Below U9.heap.size U9 w'))) (by kernel_rfl) (HS12.out _ (Below.refl _ _).drew) ?_
          refine wpAnyM_take (i := 0) (oi := { dst := Option.some 46, op := Op.load 25 (Operand.tmp 2), type := 25, pos := "law.go:200", after := #[], guard := Option.none }) (v := ?vc28z0) rfl (by kernel_rfl) (by kernel_rfl) (by kernel_rfl) (fun _ _ _ h => h) (YieldsM.of_if (Or.inl ⟨by rfl, ?hc28z0⟩)) ?rc28z0
          case hc28z0 => ((intro wz hSw; (try dsimp only at hSw); go_simp); try (with_reducible rfl))
          try simp only [Act.put, List.setIfInBounds_toArray, List.set_cons_zero, List.set_cons_succ]
          refine wpAnyM_take (i := 1) (oi := { dst := Option.some 47, op := Op.move (Operand.tmp 1), type := 43, pos := "law.go:200", after := #[], guard := Option.none }) (v := ?vc29z1) rfl (by kernel_rfl) (by kernel_rfl) (by kernel_rfl) (fun _ _ _ h => h) (YieldsM.of_if (Or.inl ⟨by rfl, ?hc29z1⟩)) ?rc29z1
          case hc29z1 => ((intro wz hSw; (try dsimp only at hSw); go_simp); try (with_reducible rfl))
          try simp only [Act.put, List.setIfInBounds_toArray, List.set_cons_zero, List.set_cons_succ]
          refine wpAnyM_take (i := 2) (oi := { dst := Option.some 48, op := Op.move (Operand.tmp 6), type := 3, pos := "law.go:200", after := #[], guard := Option.none }) (v := ?vc30z2) rfl (by kernel_rfl) (by kernel_rfl) (by kernel_rfl) (fun _ _ _ h => h) (YieldsM.of_if (Or.inl ⟨by rfl, ?hc30z2⟩)) ?rc30z2
          case hc30z2 => ((intro wz hSw; (try dsimp only at hSw); go_simp); try (with_reducible rfl))
          try simp only [Act.put, List.setIfInBounds_toArray, List.set_cons_zero, List.set_cons_succ]
          refine wpAnyM_take (i := 3) (oi := { dst := Option.some 49, op := Op.binOp BinOp.sub 3 (Operand.tmp 48) (Operand.const (Value.int IntKind.i64 1)) 3, type := 3, pos := "law.go:200", after := #[{ on := 2, ground := Ground.data }], guard := Option.none }) (v := ?vc31z3) rfl (by kernel_rfl) (by kernel_rfl) (by kernel_rfl) (fun _ _ _ h => h) (YieldsM.of_if (Or.inl ⟨by rfl, ?hc31z3⟩)) ?rc31z3
          case hc31z3 => ((intro wz hSw; (try dsimp only at hSw); go_simp); try (with_reducible rfl))
          try simp only [Act.put, List.setIfInBounds_toArray, List.set_cons_zero, List.set_cons_succ]
          refine wpAnyM_take (i := 4) (oi := { dst := Option.some 50, op := Op.indexAddr 43 (Operand.tmp 47) (Operand.tmp 49), type := 0, pos := "law.go:200", after := #[{ on := 1, ground := Ground.data }, { on := 3, ground := Ground.data }], guard := Option.none }) (v := ?vc32z4) rfl (by kernel_rfl) (by kernel_rfl) (by kernel_rfl) (fun _ _ _ h => h) (YieldsM.of_if (Or.inl ⟨by rfl, ?hc32z4⟩)) ?rc32z4
          case hc32z4 => ((intro wz hSw; (try dsimp only at hSw); go_simp); try (with_reducible rfl))
          try simp only [Act.put, List.setIfInBounds_toArray, List.set_cons_zero, List.set_cons_succ]
          refine wpAnyM_take (i := 5) (oi := { dst := Option.some 51, op := Op.load 3 (Operand.tmp 50), type := 3, pos := "law.go:200", after := #[{ on := 4, ground := Ground.data }], guard := Option.none }) (v := ?vc33z5) rfl (by kernel_rfl) (by kernel_rfl) (by kernel_rfl) (fun _ _ _ h => h) (YieldsM.of_if (Or.inl ⟨by rfl, ?hc33z5⟩)) ?rc33z5
          case hc33z5 => ((intro wz hSw; (try dsimp only at hSw); go_simp); try (with_reducible rfl))
          try simp only [Act.put, List.setIfInBounds_toArray, List.set_cons_zero, List.set_cons_succ]
          refine wpAnyM_take (i := 6) (oi := { dst := Option.some 52, op := Op.move (Operand.tmp 1), type := 43, pos := "law.go:200", after := #[], guard := Option.none }) (v := ?vc34z6) rfl (by kernel_rfl) (by kernel_rfl) (by kernel_rfl) (fun _ _ _ h => h) (YieldsM.of_if (Or.inl ⟨by rfl, ?hc34z6⟩)) ?rc34z6
          case hc34z6 => ((intro wz hSw; (try dsimp only at hSw); go_simp); try (with_reducible rfl))
          try simp only [Act.put, List.setIfInBounds_toArray, List.set_cons_zero, List.set_cons_succ]
          refine wpAnyM_take (i := 7) (oi := { dst := Option.some 53, op := Op.move (Operand.tmp 6), type := 3, pos := "law.go:200", after := #[], guard := Option.none }) (v := ?vc35z7) rfl (by kernel_rfl) (by kernel_rfl) (by kernel_rfl) (fun _ _ _ h => h) (YieldsM.of_if (Or.inl ⟨by rfl, ?hc35z7⟩)) ?rc35z7
          case hc35z7 => ((intro wz hSw; (try dsimp only at hSw); go_simp); try (with_reducible rfl))
          try simp only [Act.put, List.setIfInBounds_toArray, List.set_cons_zero, List.set_cons_succ]
          refine wpAnyM_take (i := 8) (oi := { dst := Option.some 54, op := Op.indexAddr 43 (Operand.tmp 52) (Operand.tmp 53), type := 0, pos := "law.go:200", after := #[{ on := 6, ground := Ground.data }, { on := 7, ground := Ground.data }], guard := Option.none }) (v := ?vc36z8) rfl (by kernel_rfl) (by kernel_rfl) (by kernel_rfl) (fun _ _ _ h => h) (YieldsM.of_if (Or.inl ⟨by rfl, ?hc36z8⟩)) ?rc36z8
          case hc36z8 => ((intro wz hSw; (try dsimp only at hSw); go_simp); try (with_reducible rfl))
          try simp only [Act.put, List.setIfInBounds_toArray, List.set_cons_zero, List.set_cons_succ]
          refine wpAnyM_take (i := 9) (oi := { dst := Option.some 55, op := Op.load 3 (Operand.tmp 54), type := 3, pos := "law.go:200", after := #[{ on := 8, ground := Ground.data }], guard := Option.none }) (v := ?vc37z9) rfl (by kernel_rfl) (by kernel_rfl) (by kernel_rfl) (fun _ _ _ h => h) (YieldsM.of_if (Or.inl ⟨by rfl, ?hc37z9⟩)) ?rc37z9
          case hc37z9 => ((intro wz hSw; (try dsimp only at hSw); go_simp); try (with_reducible rfl))
          try simp only [Act.put, List.setIfInBounds_toArray, List.set_cons_zero, List.set_cons_succ]
          refine ready2M (i := 10) (j := 15) (oi := { dst := Option.some 56, op := Op.call { callee := Callee.value (Operand.func 7), args := #[Operand.tmp 46, Operand.tmp 51, Operand.tmp 55], argTypes := #[25, 3, 3] }, type := 32, pos := "law.go:200", after := #[{ on := 0, ground := Ground.data }, { on := 5, ground := Ground.data }, { on := 9, ground := Ground.data }], guard := Option.none }) (oj := { dst := Option.some 11, op := Op.alloc 31, type := 0, pos := "law.go:200", after := #[], guard := Option.none }) rfl rfl (by kernel_rfl) ?_ ?_
          · intro u1 hg1 hS1 K hK
            have hb1' : Below U9.heap.size U9 u1 := btrH' (Below.refl _ _).drew hg1
            clear hS1
            go_simp
            refine (HDM.out a b u1 (H4.out u1 (HT9.out u1 hb1').2).2.2).mono ?_
            rintro e v1 ⟨r7, d7, E, lo2, lc2, hA, hE, rfl, hp, hb2'⟩
            have HAN : Hid (QAns h a b r7 d7 ∧ E = qErr h a b) := ⟨hA, hE⟩
            have F3 : Hid (∀ wx, Below v1.heap.size v1 wx → HasPlaces wx (.slice lo2 E.2.length lc2) E.2 ∧ Below U9.heap.size U9 wx) := fun wx hx => ⟨hp.keep hx, btrH' hb1' (btrH' hb2' hx)⟩
            clear hA hE hp hb1' hb2' hg1
            go_wp2_with fail
            refine hK.out _ _ (HS12.out _ (F3.out v1 (Below.refl _ _)).2) ?_
            clear hK K
            try simp only [Act.put, List.setIfInBounds_toArray, List.set_cons_zero, List.set_cons_succ]
            refine wpAnyM_take (i := 11) (oi := { dst := Option.some 45, op := Op.move (Operand.tmp 56), type := 32, pos := "law.go:200", after := #[{ on := 10, ground := Ground.data }], guard := Option.none }) (v := ?vm1z11) rfl (by kernel_rfl) (by kernel_rfl) (by kernel_rfl) (fun _ _ _ h => h) (YieldsM.of_if (Or.inl ⟨by rfl, ?hm1z11⟩)) ?rm1z11
            case hm1z11 => ((intro wz hSw; (try dsimp only at hSw); go_simp); try (with_reducible rfl))
            try simp only [Act.put, List.setIfInBounds_toArray, List.set_cons_zero, List.set_cons_succ]
            refine wpAnyM_take (i := 12) (oi := { dst := Option.some 57, op := Op.extract (Operand.tmp 45) 0, type := 3, pos := "law.go:200", after := #[{ on := 11, ground := Ground.data }], guard := Option.none }) (v := ?vm2z12) rfl (by kernel_rfl) (by kernel_rfl) (by kernel_rfl) (fun _ _ _ h => h) (YieldsM.of_if (Or.inl ⟨by rfl, ?hm2z12⟩)) ?rm2z12
            case hm2z12 => ((intro wz hSw; (try dsimp only at hSw); go_simp); try (with_reducible rfl))
            try simp only [Act.put, List.setIfInBounds_toArray, List.set_cons_zero, List.set_cons_succ]
            refine wpAnyM_take (i := 13) (oi := { dst := Option.some 58, op := Op.extract (Operand.tmp 45) 1, type := 28, pos := "law.go:200", after := #[{ on := 11, ground := Ground.data }, { on := 16, ground := Ground.gcOnly Departure.lateStores }], guard := Option.none }) (v := ?vm3z13) rfl (by kernel_rfl) (by kernel_rfl) (by kernel_rfl) (fun _ _ _ h => h) (YieldsM.of_if (Or.inl ⟨by rfl, ?hm3z13⟩)) ?rm3z13
            case hm3z13 => ((intro wz hSw; (try dsimp only at hSw); go_simp); try (with_reducible rfl))
            try simp only [Act.put, List.setIfInBounds_toArray, List.set_cons_zero, List.set_cons_succ]
            refine wpAnyM_take (i := 14) (oi := { dst := Option.some 59, op := Op.extract (Operand.tmp 45) 2, type := 31, pos := "law.go:200", after := #[{ on := 11, ground := Ground.data }, { on := 17, ground := Ground.gcOnly Departure.lateStores }], guard := Option.none }) (v := ?vm4z14) rfl (by kernel_rfl) (by kernel_rfl) (by kernel_rfl) (fun _ _ _ h => h) (YieldsM.of_if (Or.inl ⟨by rfl, ?hm4z14⟩)) ?rm4z14
            case hm4z14 => ((intro wz hSw; (try dsimp only at hSw); go_simp); try (with_reducible rfl))
            try simp only [Act.put, List.setIfInBounds_toArray, List.set_cons_zero, List.set_cons_succ]
            refine readyM (i := 15) (o := { dst := Option.some 11, op := Op.alloc 31, type := 0, pos := "law.go:200", after := #[], guard := Option.none }) rfl (by kernel_rfl) ?_
            intro u2 hg2 hS2 K hK
            have hf2 := F3.out u2 hg2
            clear hS2
            go_simp
            have hal : Below u2.heap.size u2 (u2.alloc (.cells #[.int .i64 0, .slice none 0 0] 31)) := (Below.refl _ _).alloc (Nat.le_refl _) _
            have hnw := heap_newW u2 (.cells #[.int .i64 0, .slice none 0 0] 31)
            have hle : U9.heap.size ≤ u2.heap.size := Below.size hf2.2
            obtain ⟨q, hgq⟩ : ∃ q, u2.heap.size = q := ⟨_, rfl⟩
            rw [hgq] at hnw hle ⊢
            generalize u2.alloc (.cells #[.int .i64 0, .slice none 0 0] 31) = y2 at *
            have F5 : Hid (∀ wx, Below y2.heap.size y2 wx → (wx.heap[q]? = some (.cells #[.int .i64 0, .slice none 0 0] 31) ∧ U9.heap.size ≤ q) ∧ HasPlaces wx (.slice lo2 E.2.length lc2) E.2 ∧ Below U9.heap.size U9 wx) := fun wx hx => ⟨⟨(Below.block hx _ (some_lt hnw)).trans hnw, hle⟩, (F3.out wx (btrH' hg2 (btrH' hal hx))).1, (F3.out wx (btrH' hg2 (btrH' hal hx))).2⟩
            refine hK.out _ _ (HS12.out _ (F5.out y2 (Below.refl _ _)).2.2) ?_
            clear hK K F3 hal hnw hle hgq hg2 hf2
            try simp only [Act.put, List.setIfInBounds_toArray, List.set_cons_zero, List.set_cons_succ]
            refine wpAnyM_take (i := 16) (oi := { dst := Option.some 9, op := Op.assign (Operand.tmp 57), type := 3, pos := "law.go:200", after := #[{ on := 12, ground := Ground.data }, { on := 10, ground := Ground.chain }, { on := 0, ground := Ground.phase }, { on := 1, ground := Ground.phase }, { on := 2, ground := Ground.phase }, { on := 3, ground := Ground.phase }, { on := 4, ground := Ground.phase }, { on := 5, ground := Ground.phase }, { on := 6, ground := Ground.phase }, { on := 7, ground := Ground.phase }, { on := 8, ground := Ground.phase }, { on := 9, ground := Ground.phase }, { on := 10, ground := Ground.phase }, { on := 11, ground := Ground.phase }, { on := 12, ground := Ground.phase }, { on := 13, ground := Ground.textOnly Departure.lateStores }, { on := 14, ground := Ground.textOnly Departure.lateStores }, { on := 15, ground := Ground.phase }], guard := Option.none }) (v := ?vn5z16) rfl (by kernel_rfl) (by kernel_rfl) (by kernel_rfl) (fun _ _ _ h => h) (YieldsM.of_if (Or.inl ⟨by rfl, ?hn5z16⟩)) ?rn5z16
            case hn5z16 => ((intro wz hSw; (try dsimp only at hSw); go_simp); try (with_reducible rfl))
            try simp only [Act.put, List.setIfInBounds_toArray, List.set_cons_zero, List.set_cons_succ]
            refine wpAnyM_take (i := 17) (oi := { dst := Option.some 10, op := Op.assign (Operand.tmp 58), type := 28, pos := "law.go:200", after := #[{ on := 13, ground := Ground.data }, { on := 16, ground := Ground.chain }, { on := 0, ground := Ground.phase }, { on := 1, ground := Ground.phase }, { on := 2, ground := Ground.phase }, { on := 3, ground := Ground.phase }, { on := 4, ground := Ground.phase }, { on := 5, ground := Ground.phase }, { on := 6, ground := Ground.phase }, { on := 7, ground := Ground.phase }, { on := 8, ground := Ground.phase }, { on := 9, ground := Ground.phase }, { on := 10, ground := Ground.phase }, { on := 11, ground := Ground.phase }, { on := 12, ground := Ground.phase }, { on := 13, ground := Ground.phase }, { on := 14, ground := Ground.textOnly Departure.lateStores }, { on := 15, ground := Ground.phase }, { on := 16, ground := Ground.phase }], guard := Option.none }) (v := ?vn6z17) rfl (by kernel_rfl) (by kernel_rfl) (by kernel_rfl) (fun _ _ _ h => h) (YieldsM.of_if (Or.inl ⟨by rfl, ?hn6z17⟩)) ?rn6z17
            case hn6z17 => ((intro wz hSw; (try dsimp only at hSw); go_simp); try (with_reducible rfl))
            try simp only [Act.put, List.setIfInBounds_toArray, List.set_cons_zero, List.set_cons_succ]
            refine readyM (i := 18) (o := { dst := Option.none, op := Op.store 31 (Operand.tmp 11) (Operand.tmp 59), type := 0, pos := "law.go:200", after := #[{ on := 15, ground := Ground.data }, { on := 14, ground := Ground.data }, { on := 17, ground := Ground.chain }, { on := 0, ground := Ground.phase }, { on := 1, ground := Ground.phase }, { on := 2, ground := Ground.phase }, { on := 3, ground := Ground.phase }, { on := 4, ground := Ground.phase }, { on := 5, ground := Ground.phase }, { on := 6, ground := Ground.phase }, { on := 7, ground := Ground.phase }, { on := 8, ground := Ground.phase }, { on := 9, ground := Ground.phase }, { on := 10, ground := Ground.phase }, { on := 11, ground := Ground.phase }, { on := 12, ground := Ground.phase }, { on := 13, ground := Ground.phase }, { on := 14, ground := Ground.phase }, { on := 15, ground := Ground.phase }, { on := 16, ground := Ground.phase }, { on := 17, ground := Ground.phase }], guard := Option.none }) rfl (by kernel_rfl) ?_
            intro u5 hg5 hS5 K hK
            obtain ⟨g1, g2, g3⟩ := F5.out u5 hg5
            obtain ⟨d0, d1, f0, f1⟩ := cell_two g1.1
            have HT : Hid (((u5.setCell ⟨q, 0, none⟩ (.int .i64 E.1)).setCell ⟨q, 1, none⟩ (.slice lo2 E.2.length lc2)).heap[q]? = some (.cells #[.int .i64 E.1, .slice lo2 E.2.length lc2] 31) ∧ HasPlaces ((u5.setCell ⟨q, 0, none⟩ (.int .i64 E.1)).setCell ⟨q, 1, none⟩ (.slice lo2 E.2.length lc2)) (.slice lo2 E.2.length lc2) E.2 ∧ Below U9.heap.size U9 ((u5.setCell ⟨q, 0, none⟩ (.int .i64 E.1)).setCell ⟨q, 1, none⟩ (.slice lo2 E.2.length lc2))) := ⟨set_err g1.1 _ _, pl_sets (F := E) g1.1 g2 _ _, (Below.setCell (p := ⟨q, 0, none⟩) g3 g1.2 _).setCell (p := ⟨q, 1, none⟩) g1.2 _⟩
            clear hS5 g1 g2 g3 hg5
            go_simp
            refine hK.out _ _ (HS12.out _ HT.out.2.2) ?_
            clear hK K d0 d1 f0 f1
            try simp only [Act.put, List.setIfInBounds_toArray, List.set_cons_zero, List.set_cons_succ]
            generalize ((u5.setCell ⟨q, 0, none⟩ (.int .i64 E.1)).setCell ⟨q, 1, none⟩ (.slice lo2 E.2.length lc2)) = U6 at HT ⊢
            refine wpAnyM_done (by kernel_rfl) ?_ _
            intro u9 hg9 hS9
            have HZ : Hid (u9.heap[q]? = some (.cells #[.int .i64 E.1, .slice lo2 E.2.length lc2] 31) ∧ HasPlaces u9 (.slice lo2 E.2.length lc2) E.2 ∧ Below U9.heap.size U9 u9) := ⟨(Below.block hg9 _ (some_lt HT.out.1)).trans HT.out.1, HT.out.2.1.keep hg9, btrH' HT.out.2.2 hg9⟩
            clear hS9 hg9 HT F5
            obtain ⟨x1, x2⟩ := HMR.out.one HAN.out.1
            subst x1
            subst x2
            have n1 : (d6 != d6) = false := by simp
            obtain ⟨q0, q1, _, _⟩ := cell_two HZ.out.1
            have HTT : Hid (IsTold u9 E g6) := by
              show IsTold u9 E g6
              rw [HAN.out.2]
              exact (HT9.out u9 HZ.out.2.2).1
            have HBU : Hid (Below W4.heap.size W4 u9) := (HT9.out u9 HZ.out.2.2).2
            go_wp2_with fail
            refine (seen_told E g6 lo2 lc2 u9 HTT.out HZ.out.2.1 (by rw [HAN.out.2]; exact qErr_places h a b) (HTY.out _ (HQ.out _ (H4.out u9 HBU.out).2.2).2.2.1)).mono ?_
            rintro e k9 ⟨rfl, hb⟩
            have HK9 : Hid (Below W4.heap.size W4 k9) := btrH' HBU.out hb
            clear hb q0 q1 n1
            go_wp2
            go_roundw
            case rel => exact ⟨i + 1, by omega, by omega, by go_num, HK9.out⟩
            case measure => simp [intOf]; omega
          · intro u2 hg2 hS2 K hK
            have hb2' : Below U9.heap.size U9 u2 := btrH' (Below.refl _ _).drew hg2
            clear hS2
            go_simp
            have hal : Below u2.heap.size u2 (u2.alloc (.cells #[.int .i64 0, .slice none 0 0] 31)) := (Below.refl _ _).alloc (Nat.le_refl _) _
            have hnw := heap_newW u2 (.cells #[.int .i64 0, .slice none 0 0] 31)
            have hle : U9.heap.size ≤ u2.heap.size := Below.size hb2'
            obtain ⟨q, hgq⟩ : ∃ q, u2.heap.size = q := ⟨_, rfl⟩
            rw [hgq] at hnw hle ⊢
            generalize u2.alloc (.cells #[.int .i64 0, .slice none 0 0] 31) = y2 at *
            have F3 : Hid (∀ wx, Below y2.heap.size y2 wx → (wx.heap[q]? = some (.cells #[.int .i64 0, .slice none 0 0] 31) ∧ U9.heap.size ≤ q) ∧ Below U9.heap.size U9 wx) := fun wx hx => ⟨⟨(Below.block hx _ (some_lt hnw)).trans hnw, hle⟩, btrH' hb2' (btrH' hal hx)⟩
            refine hK.out _ _ (HS12.out _ (F3.out y2 (Below.refl _ _)).2) ?_
            clear hK K hal hnw hle hgq hg2 hb2'
            try simp only [Act.put, List.setIfInBounds_toArray, List.set_cons_zero, List.set_cons_succ]
            refine readyM (i := 10) (o := { dst := Option.some 56, op := Op.call { callee := Callee.value (Operand.func 7), args := #[Operand.tmp 46, Operand.tmp 51, Operand.tmp 55], argTypes := #[25, 3, 3] }, type := 32, pos := "law.go:200", after := #[{ on := 0, ground := Ground.data }, { on := 5, ground := Ground.data }, { on := 9, ground := Ground.data }], guard := Option.none }) rfl (by kernel_rfl) ?_
            intro u1 hg1 hS1 K hK
            have hf1 := F3.out u1 hg1
            clear hS1
            go_simp
            refine (HDM.out a b u1 (H4.out u1 (HT9.out u1 hf1.2).2).2.2).mono ?_
            rintro e v1 ⟨r7, d7, E, lo2, lc2, hA, hE, rfl, hp, hb3'⟩
            have HAN : Hid (QAns h a b r7 d7 ∧ E = qErr h a b) := ⟨hA, hE⟩
            have F5 : Hid (∀ wx, Below v1.heap.size v1 wx → (wx.heap[q]? = some (.cells #[.int .i64 0, .slice none 0 0] 31) ∧ U9.heap.size ≤ q) ∧ HasPlaces wx (.slice lo2 E.2.length lc2) E.2 ∧ Below U9.heap.size U9 wx) := fun wx hx => ⟨(F3.out wx (btrH' hg1 (btrH' hb3' hx))).1, hp.keep hx, (F3.out wx (btrH' hg1 (btrH' hb3' hx))).2⟩
            clear hA hE hp hb3' hg1 hf1 F3
            go_wp2_with fail
            refine hK.out _ _ (HS12.out _ (F5.out v1 (Below.refl _ _)).2.2) ?_
            clear hK K
            try simp only [Act.put, List.setIfInBounds_toArray, List.set_cons_zero, List.set_cons_succ]
            refine wpAnyM_take (i := 11) (oi := { dst := Option.some 45, op := Op.move (Operand.tmp 56), type := 32, pos := "law.go:200", after := #[{ on := 10, ground := Ground.data }], guard := Option.none }) (v := ?vo7z11) rfl (by kernel_rfl) (by kernel_rfl) (by kernel_rfl) (fun _ _ _ h => h) (YieldsM.of_if (Or.inl ⟨by rfl, ?ho7z11⟩)) ?ro7z11
            case ho7z11 => ((intro wz hSw; (try dsimp only at hSw); go_simp); try (with_reducible rfl))
            try simp only [Act.put, List.setIfInBounds_toArray, List.set_cons_zero, List.set_cons_succ]
            refine wpAnyM_take (i := 12) (oi := { dst := Option.some 57, op := Op.extract (Operand.tmp 45) 0, type := 3, pos := "law.go:200", after := #[{ on := 11, ground := Ground.data }], guard := Option.none }) (v := ?vo8z12) rfl (by kernel_rfl) (by kernel_rfl) (by kernel_rfl) (fun _ _ _ h => h) (YieldsM.of_if (Or.inl ⟨by rfl, ?ho8z12⟩)) ?ro8z12
            case ho8z12 => ((intro wz hSw; (try dsimp only at hSw); go_simp); try (with_reducible rfl))
            try simp only [Act.put, List.setIfInBounds_toArray, List.set_cons_zero, List.set_cons_succ]
            refine wpAnyM_take (i := 13) (oi := { dst := Option.some 58, op := Op.extract (Operand.tmp 45) 1, type := 28, pos := "law.go:200", after := #[{ on := 11, ground := Ground.data }, { on := 16, ground := Ground.gcOnly Departure.lateStores }], guard := Option.none }) (v := ?vo9z13) rfl (by kernel_rfl) (by kernel_rfl) (by kernel_rfl) (fun _ _ _ h => h) (YieldsM.of_if (Or.inl ⟨by rfl, ?ho9z13⟩)) ?ro9z13
            case ho9z13 => ((intro wz hSw; (try dsimp only at hSw); go_simp); try (with_reducible rfl))
            try simp only [Act.put, List.setIfInBounds_toArray, List.set_cons_zero, List.set_cons_succ]
            refine wpAnyM_take (i := 14) (oi := { dst := Option.some 59, op := Op.extract (Operand.tmp 45) 2, type := 31, pos := "law.go:200", after := #[{ on := 11, ground := Ground.data }, { on := 17, ground := Ground.gcOnly Departure.lateStores }], guard := Option.none }) (v := ?vo10z14) rfl (by kernel_rfl) (by kernel_rfl) (by kernel_rfl) (fun _ _ _ h => h) (YieldsM.of_if (Or.inl ⟨by rfl, ?ho10z14⟩)) ?ro10z14
            case ho10z14 => ((intro wz hSw; (try dsimp only at hSw); go_simp); try (with_reducible rfl))
            try simp only [Act.put, List.setIfInBounds_toArray, List.set_cons_zero, List.set_cons_succ]
            refine wpAnyM_take (i := 16) (oi := { dst := Option.some 9, op := Op.assign (Operand.tmp 57), type := 3, pos := "law.go:200", after := #[{ on := 12, ground := Ground.data }, { on := 10, ground := Ground.chain }, { on := 0, ground := Ground.phase }, { on := 1, ground := Ground.phase }, { on := 2, ground := Ground.phase }, { on := 3, ground := Ground.phase }, { on := 4, ground := Ground.phase }, { on := 5, ground := Ground.phase }, { on := 6, ground := Ground.phase }, { on := 7, ground := Ground.phase }, { on := 8, ground := Ground.phase }, { on := 9, ground := Ground.phase }, { on := 10, ground := Ground.phase }, { on := 11, ground := Ground.phase }, { on := 12, ground := Ground.phase }, { on := 13, ground := Ground.textOnly Departure.lateStores }, { on := 14, ground := Ground.textOnly Departure.lateStores }, { on := 15, ground := Ground.phase }], guard := Option.none }) (v := ?vo11z16) rfl (by kernel_rfl) (by kernel_rfl) (by kernel_rfl) (fun _ _ _ h => h) (YieldsM.of_if (Or.inl ⟨by rfl, ?ho11z16⟩)) ?ro11z16
            case ho11z16 => ((intro wz hSw; (try dsimp only at hSw); go_simp); try (with_reducible rfl))
            try simp only [Act.put, List.setIfInBounds_toArray, List.set_cons_zero, List.set_cons_succ]
            refine wpAnyM_take (i := 17) (oi := { dst := Option.some 10, op := Op.assign (Operand.tmp 58), type := 28, pos := "law.go:200", after := #[{ on := 13, ground := Ground.data }, { on := 16, ground := Ground.chain }, { on := 0, ground := Ground.phase }, { on := 1, ground := Ground.phase }, { on := 2, ground := Ground.phase }, { on := 3, ground := Ground.phase }, { on := 4, ground := Ground.phase }, { on := 5, ground := Ground.phase }, { on := 6, ground := Ground.phase }, { on := 7, ground := Ground.phase }, { on := 8, ground := Ground.phase }, { on := 9, ground := Ground.phase }, { on := 10, ground := Ground.phase }, { on := 11, ground := Ground.phase }, { on := 12, ground := Ground.phase }, { on := 13, ground := Ground.phase }, { on := 14, ground := Ground.textOnly Departure.lateStores }, { on := 15, ground := Ground.phase }, { on := 16, ground := Ground.phase }], guard := Option.none }) (v := ?vo12z17) rfl (by kernel_rfl) (by kernel_rfl) (by kernel_rfl) (fun _ _ _ h => h) (YieldsM.of_if (Or.inl ⟨by rfl, ?ho12z17⟩)) ?ro12z17
            case ho12z17 => ((intro wz hSw; (try dsimp only at hSw); go_simp); try (with_reducible rfl))
            try simp only [Act.put, List.setIfInBounds_toArray, List.set_cons_zero, List.set_cons_succ]
            refine readyM (i := 18) (o := { dst := Option.none, op := Op.store 31 (Operand.tmp 11) (Operand.tmp 59), type := 0, pos := "law.go:200", after := #[{ on := 15, ground := Ground.data }, { on := 14, ground := Ground.data }, { on := 17, ground := Ground.chain }, { on := 0, ground := Ground.phase }, { on := 1, ground := Ground.phase }, { on := 2, ground := Ground.phase }, { on := 3, ground := Ground.phase }, { on := 4, ground := Ground.phase }, { on := 5, ground := Ground.phase }, { on := 6, ground := Ground.phase }, { on := 7, ground := Ground.phase }, { on := 8, ground := Ground.phase }, { on := 9, ground := Ground.phase }, { on := 10, ground := Ground.phase }, { on := 11, ground := Ground.phase }, { on := 12, ground := Ground.phase }, { on := 13, ground := Ground.phase }, { on := 14, ground := Ground.phase }, { on := 15, ground := Ground.phase }, { on := 16, ground := Ground.phase }, { on := 17, ground := Ground.phase }], guard := Option.none }) rfl (by kernel_rfl) ?_
            intro u5 hg5 hS5 K hK
            obtain ⟨g1, g2, g3⟩ := F5.out u5 hg5
            obtain ⟨d0, d1, f0, f1⟩ := cell_two g1.1
            have HT : Hid (((u5.setCell ⟨q, 0, none⟩ (.int .i64 E.1)).setCell ⟨q, 1, none⟩ (.slice lo2 E.2.length lc2)).heap[q]? = some (.cells #[.int .i64 E.1, .slice lo2 E.2.length lc2] 31) ∧ HasPlaces ((u5.setCell ⟨q, 0, none⟩ (.int .i64 E.1)).setCell ⟨q, 1, none⟩ (.slice lo2 E.2.length lc2)) (.slice lo2 E.2.length lc2) E.2 ∧ Below U9.heap.size U9 ((u5.setCell ⟨q, 0, none⟩ (.int .i64 E.1)).setCell ⟨q, 1, none⟩ (.slice lo2 E.2.length lc2))) := ⟨set_err g1.1 _ _, pl_sets (F := E) g1.1 g2 _ _, (Below.setCell (p := ⟨q, 0, none⟩) g3 g1.2 _).setCell (p := ⟨q, 1, none⟩) g1.2 _⟩
            clear hS5 g1 g2 g3 hg5
            go_simp
            refine hK.out _ _ (HS12.out _ HT.out.2.2) ?_
            clear hK K d0 d1 f0 f1
            try simp only [Act.put, List.setIfInBounds_toArray, List.set_cons_zero, List.set_cons_succ]
            generalize ((u5.setCell ⟨q, 0, none⟩ (.int .i64 E.1)).setCell ⟨q, 1, none⟩ (.slice lo2 E.2.length lc2)) = U6 at HT ⊢
            refine wpAnyM_done (by kernel_rfl) ?_ _
            intro u9 hg9 hS9
            have HZ : Hid (u9.heap[q]? = some (.cells #[.int .i64 E.1, .slice lo2 E.2.length lc2] 31) ∧ HasPlaces u9 (.slice lo2 E.2.length lc2) E.2 ∧ Below U9.heap.size U9 u9) := ⟨(Below.block hg9 _ (some_lt HT.out.1)).trans HT.out.1, HT.out.2.1.keep hg9, btrH' HT.out.2.2 hg9⟩
            clear hS9 hg9 HT F5
            obtain ⟨x1, x2⟩ := HMR.out.one HAN.out.1
            subst x1
            subst x2
            have n1 : (d6 != d6) = false := by simp
            obtain ⟨q0, q1, _, _⟩ := cell_two HZ.out.1
            have HTT : Hid (IsTold u9 E g6) := by
              show IsTold u9 E g6
              rw [HAN.out.2]
              exact (HT9.out u9 HZ.out.2.2).1
            have HBU : Hid (Below W4.heap.size W4 u9) := (HT9.out u9 HZ.out.2.2).2
            go_wp2_with fail
            refine (seen_told E g6 lo2 lc2 u9 HTT.out HZ.out.2.1 (by rw [HAN.out.2]; exact qErr_places h a b) (HTY.out _ (HQ.out _ (H4.out u9 HBU.out).2.2).2.2.1)).mono ?_
            rintro e k9 ⟨rfl, hb⟩
            have HK9 : Hid (Below W4.heap.size W4 k9) := btrH' HBU.out hb
            clear hb q0 q1 n1
            go_wp2
            go_roundw
            case rel => exact ⟨i + 1, by omega, by omega, by go_num, HK9.out⟩
            case measure => simp [intOf]; omega
        · have q8 : decide ((i : Int) < (l.length : Int)) = false := by simp; omega
          have q8n : decide (i < l.length) = false := by simp; omega
          go_wp2
          go_roundw
          case rel => exact ⟨r + 1, by omega, by go_num, HB.out⟩
          case measure => simp [intOf]; omega
    · subst h1
      obtain ⟨⟨c0, c1, c2, c3, c4⟩, hu, hw0⟩ := H4.out wr HBr.out
      obtain ⟨e0, e1, e2, e3, e4⟩ := (HQ.out wr hw0).1
      have HHU : Hid (HasH wr ⟨no', uo', ul', wo', dl', nc', uc', ulc', wc', dlc'⟩ h ∧ Below W0.heap.size W0 wr) := ⟨hu, hw0⟩
      clear hu hw0
      go_wp2_with fail
      refine (HAS.out wr HHU.out.2 HHU.out.1).mono ?_
      rintro e k4 ⟨rfl, hb⟩
      have HK4 : Hid (Below W0.heap.size W0 k4) := btrH' HHU.out.2 hb
      clear hb
      go_wp2
      go_ret
      exact ⟨rfl, (HQ.out k4 HK4.out).2.2.1⟩

theorem memory_calls (v : HV) (h : Hr) (lo : Option Addr) (lc : Nat) (l : List Int) (w : World) (hty : HasType w) (hH : HasH w v h) (hr : Hi.Reach h) (hl : HasInts w (.slice lo l.length lc) l) :
    Calls Tryz.prog 4 #[hvl v h, .slice lo l.length lc] w fun e w' => e = .returned (.bool true) ∧ Below w.heap.size w w' :=
  memory_aux v.no v.uo v.ul v.wo v.dl v.nc v.uc v.ulc v.wc v.dlc h lo lc l w hty hH hr hl
end Go.Proofs.YthcdkokgfnidiaaGreatDoor.Qy

namespace Go.Proofs.YthcdkokgfnidiaaGreatDoor
open Go.ChangeShapes Go.WideShapes Go.RowKit Go.Deep

theorem Tryz.cells3 : Tryz.prog.cellsOf 3 = 1 := by kernel_rfl

end Go.Proofs.YthcdkokgfnidiaaGreatDoor

namespace Go.Proofs.YthcdkokgfnidiaaGreatDoor.Hi
open Go.ChangeShapes Go.WideShapes Go.RowKit Go.Deep Go.Extern

theorem cells_u32 : Tryz.prog.cellsOf 69 = 1 := by kernel_rfl
theorem cells_u64 : Tryz.prog.cellsOf 28 = 1 := by kernel_rfl
theorem cells_u32s : Tryz.prog.cellsOf 22 = 1 := by kernel_rfl
theorem cells_lks : Tryz.prog.cellsOf 23 = 1 := by kernel_rfl
theorem cells_lk : Tryz.prog.cellsOf 71 = 4 := by kernel_rfl
theorem cells_hier : Tryz.prog.cellsOf 25 = 5 := by kernel_rfl
theorem u32_range {x : Int} (h : (Lit.int .u32 x).wf = true) : 0 ≤ x ∧ x ≤ 4294967295 := by
  simp [Lit.wf] at h
  have e1 : IntKind.u32.min = 0 := by kernel_rfl
  have e2 : IntKind.u32.max = 4294967295 := by kernel_rfl
  rw [e1, e2] at h
  exact h
theorem u64_range {x : Int} (h : (Lit.int .u64 x).wf = true) : 0 ≤ x ∧ x ≤ 18446744073709551615 := by
  simp [Lit.wf] at h
  have e1 : IntKind.u64.min = 0 := by kernel_rfl
  have e2 : IntKind.u64.max = 18446744073709551615 := by kernel_rfl
  rw [e1, e2] at h
  exact h
theorem trod_struct5 {H : Type} {enc : TypeId × Value → H} {P : Program} {w : World} {base : Nat} {spare : Nat → Bool} {held : Bool} {t : TypeId} {f0 f1 f2 f3 f4 : Field} {fuel : Nat} {cs : List Value} {x : DataW H × List MemPlace} (ht : P.underlying t = some (.struct #[f0, f1, f2, f3, f4])) (h : DataW.trod enc P w base spare held fuel t cs = some x) :
    ∃ y0 y1 y2 y3 y4 n, x.1 = .agg [y0.1, y1.1, y2.1, y3.1, y4.1] ∧ DataW.trod enc P w base spare held n f0.type ((cs.drop f0.offset).take (P.cellsOf f0.type)) = some y0 ∧
      DataW.trod enc P w base spare held n f1.type ((cs.drop f1.offset).take (P.cellsOf f1.type)) = some y1 ∧ DataW.trod enc P w base spare held n f2.type ((cs.drop f2.offset).take (P.cellsOf f2.type)) = some y2 ∧
      DataW.trod enc P w base spare held n f3.type ((cs.drop f3.offset).take (P.cellsOf f3.type)) = some y3 ∧ DataW.trod enc P w base spare held n f4.type ((cs.drop f4.offset).take (P.cellsOf f4.type)) = some y4 := by
  obtain ⟨xs, n, _, rfl, hl, hlen, hf⟩ := DataW.trod_struct ht h
  match xs, hlen with
  | [y0, y1, y2, y3, y4], _ => exact ⟨y0, y1, y2, y3, y4, n, by simp, by simpa using hf 0 f0 rfl, by simpa using hf 1 f1 rfl, by simpa using hf 2 f2 rfl, by simpa using hf 3 f3 rfl, by simpa using hf 4 f4 rfl⟩
/-- what a list of n reads as. -/
def ReadsN {H : Type} (d : DataW H) (n : Nat) : Prop := n = 0 ∨ ∃ el sp, d = .slice el sp ∧ el.length = n
theorem row_get {α : Type} {n : Nat} {q : Nat → α} {j : Nat} {r : α} (hj : ((List.range n).map q)[j]? = some r) : j < n ∧ r = q j := by
  have hj' : j < n := by
    have := (List.getElem?_eq_some_iff.1 hj).1
    rw [List.length_map, List.length_range] at this
    exact this
  rw [List.getElem?_map, List.getElem?_range hj'] at hj
  exact ⟨hj', (Option.some.inj hj).symm⟩
set_option maxRecDepth 100000 in
theorem words_open {H : Type} {enc : TypeId × Value → H} {W : World} {fuel : Nat} {g : Value} {y : DataW H × List MemPlace} (t1 : DataW.trod enc Tryz.prog W 0 (fun _ => true) true fuel 22 [g] = some y) :
    ∃ (ao : Option Addr) (cap : Nat) (l : List Nat), g = .slice ao l.length cap ∧ HasWs W (.slice ao l.length cap) l ∧ ReadsN y.1 l.length := by
  rcases open_slice1 Tryz.underlying22 cells_u32 t1 with ⟨hcs, _⟩ | ⟨a, len', cap', m, n, V, D, Pl, hcs, _, hl, hm, hmm, rfl, hx⟩
  · have e : g = .slice none 0 0 := by simpa using hcs
    subst e
    exact ⟨none, 0, [], rfl, ⟨none, 0, rfl, Nat.le_refl _, fun j q hj => by simp at hj⟩, Or.inl rfl⟩
  · have e : g = .slice (some a) len' cap' := by simpa using hcs
    subst e
    simp at hmm
    subst hmm
    have hq : ∀ i, i < len' → ∃ q : Nat, W.cell? (a.add i) = some (.int .u32 (q : Int)) ∧ q < 4294967296 := fun i hi => by
      obtain ⟨h1, h2⟩ := hx i (by omega)
      obtain ⟨x0, e0, _, e9⟩ := DataW.trod_int Tryz.underlying69 h2
      simp at e0
      rw [e0] at h1
      have r := u32_range e9
      obtain ⟨q, rfl⟩ : ∃ q : Nat, x0 = q := ⟨x0.toNat, by omega⟩
      exact ⟨q, h1, by omega⟩
    obtain ⟨q, hq'⟩ := choose_lt hq
    have hlen : ((List.range len').map q).length = len' := by rw [List.length_map, List.length_range]
    refine ⟨some a, m, (List.range len').map q, by rw [hlen], ⟨some a, m, rfl, by rw [hlen]; exact hl, fun j r hj => ?_⟩, Or.inr ⟨_, _, rfl, by rw [List.length_map, List.length_range, hlen]⟩⟩
    obtain ⟨hj', rfl⟩ := row_get hj
    refine ⟨(hq' j hj').2, ?_⟩
    have h0 := (hq' j hj').1
    obtain ⟨b, off, spot⟩ := a
    have hspot : spot = none := by
      have h00 := (hq' 0 (by omega)).1
      simpa [Addr.add] using World.cell?_spot h00
    subst hspot
    have e1 : (Addr.mk b off none).add j = ⟨b, off + j, none⟩ := add_plain _ _ _
    rw [e1] at h0
    have hlt : b < W.heap.size := by
      rcases Nat.lt_or_ge b W.heap.size with h | h
      · exact h
      · simp [World.cell?, Array.getElem?_eq_none h] at h0
    exact ⟨b, off, rfl, hlt, h0⟩
set_option maxRecDepth 100000 in
theorem links_open {H : Type} {enc : TypeId × Value → H} {W : World} {fuel : Nat} {g : Value} {y : DataW H × List MemPlace} (t1 : DataW.trod enc Tryz.prog W 0 (fun _ => true) true fuel 23 [g] = some y) :
    ∃ (ao : Option Addr) (cap : Nat) (l : List Lk), g = .slice ao l.length cap ∧ HasLs W (.slice ao l.length cap) l ∧ ReadsN y.1 l.length := by
  rcases open_slice Tryz.underlying23 t1 with ⟨hcs, _⟩ | ⟨a, len', cap', m, n, D, Pl, hcs, _, hl, hm, hmm, rfl, hx⟩
  · have e : g = .slice none 0 0 := by simpa using hcs
    subst e
    exact ⟨none, 0, [], rfl, ⟨none, 0, rfl, Nat.le_refl _, fun j q hj => by simp at hj⟩, Or.inl rfl⟩
  · have e : g = .slice (some a) len' cap' := by simpa using hcs
    subst e
    simp at hmm
    subst hmm
    have hq : ∀ i, i < len' → ∃ q : Lk, q.ok ∧ W.cell? (a.add (i * 4)) = some (.int .u32 (q.hd : Int)) ∧ W.cell? ((a.add (i * 4)).add 1) = some (.int .u64 (q.wt : Int)) ∧ W.cell? ((a.add (i * 4)).add 2) = some (.int .u32 (q.lf : Int)) ∧ W.cell? ((a.add (i * 4)).add 3) = some (.int .u32 (q.rt : Int)) := fun i hi => by
      obtain ⟨cs', h1, h2⟩ := hx i (by omega)
      rw [cells_lk] at h1
      obtain ⟨_, hlen, hcell⟩ := World.cells?_some h1
      obtain ⟨c0, c1, c2, c3, rfl⟩ : ∃ c0 c1 c2 c3, cs' = [c0, c1, c2, c3] := by
        match cs', hlen with
        | [c0, c1, c2, c3], _ => exact ⟨c0, c1, c2, c3, rfl⟩
      obtain ⟨y0, y1, y2, y3, m, _, _, t0, t1, t2, t3⟩ := Go.Joins.trod_struct4 Tryz.underlying71 h2
      rw [cells_u32] at t0 t2 t3
      rw [cells_u64] at t1
      obtain ⟨x0, e0, _, r0⟩ := DataW.trod_int Tryz.underlying69 t0
      obtain ⟨x1, e1, _, r1⟩ := DataW.trod_int Tryz.underlying28 t1
      obtain ⟨x2, e2, _, r2⟩ := DataW.trod_int Tryz.underlying69 t2
      obtain ⟨x3, e3, _, r3⟩ := DataW.trod_int Tryz.underlying69 t3
      simp at e0 e1 e2 e3
      subst e0 e1 e2 e3
      have s0 := u32_range r0
      have s1 := u64_range r1
      have s2 := u32_range r2
      have s3 := u32_range r3
      obtain ⟨n0, rfl⟩ : ∃ q : Nat, x0 = q := ⟨x0.toNat, by omega⟩
      obtain ⟨n1, rfl⟩ : ∃ q : Nat, x1 = q := ⟨x1.toNat, by omega⟩
      obtain ⟨n2, rfl⟩ : ∃ q : Nat, x2 = q := ⟨x2.toNat, by omega⟩
      obtain ⟨n3, rfl⟩ : ∃ q : Nat, x3 = q := ⟨x3.toNat, by omega⟩
      have g0 := hcell 0 (by omega)
      have g1 := hcell 1 (by omega)
      have g2 := hcell 2 (by omega)
      have g3 := hcell 3 (by omega)
      exact ⟨⟨n0, n1, n2, n3⟩, by unfold Lk.ok; dsimp only; omega, by simpa [Addr.add] using g0, by simpa using g1, by simpa using g2, by simpa using g3⟩
    obtain ⟨q, hq'⟩ := choose_lt hq
    have hlen : ((List.range len').map q).length = len' := by rw [List.length_map, List.length_range]
    refine ⟨some a, m, (List.range len').map q, by rw [hlen], ⟨some a, m, rfl, by rw [hlen]; exact hl, fun j r hj => ?_⟩, Or.inr ⟨_, _, rfl, by rw [List.length_map, List.length_range, hlen]⟩⟩
    obtain ⟨hj', rfl⟩ := row_get hj
    obtain ⟨ok, h0, h1, h2, h3⟩ := hq' j hj'
    refine ⟨ok, ?_⟩
    obtain ⟨b, off, spot⟩ := a
    have hspot : spot = none := by
      have h00 := (hq' 0 (by omega)).2.1
      simpa [Addr.add] using World.cell?_spot h00
    subst hspot
    have e1 : (Addr.mk b off none).add (j * 4) = ⟨b, off + j * 4, none⟩ := add_plain _ _ _
    rw [e1] at h0 h1 h2 h3
    have e2 : ∀ i, (Addr.mk b (off + j * 4) none).add i = ⟨b, off + j * 4 + i, none⟩ := fun i => add_plain _ _ _
    rw [e2] at h1 h2 h3
    have hlt : b < W.heap.size := by
      rcases Nat.lt_or_ge b W.heap.size with h | h
      · exact h
      · simp [World.cell?, Array.getElem?_eq_none h] at h0
    exact ⟨b, off, rfl, hlt, h0, h1, h2, h3⟩
theorem bytes_u32 : Tryz.prog.bytesOf 69 = 4 := by kernel_rfl
theorem bytes_lk : Tryz.prog.bytesOf 71 = 24 := by kernel_rfl
theorem reach_w {H : Type} {ts : List TypeId} {r : List (DataW H)} (hsz : (DataW.weightsEach Tryz.prog ts r).all (· ≤ reachBytes) = true) {j : Nat} {d0 d1 d2 d3 d4 : DataW H} (ht : ts[j]? = some 25) (hd : r[j]? = some (.agg [d0, d1, d2, d3, d4])) {n : Nat} {d : DataW H} (hh : d = d0 ∨ d = d1 ∨ d = d3) (hr : ReadsN d n) : n * 4 ≤ 140737488351232 := by
  rcases hr with rfl | ⟨el, sp, rfl, hl⟩
  · simp
  · have hm := List.all_eq_true.1 hsz _ (DataW.weights_mem_each (j := j) (t := 25) (d := .agg [d0, d1, d2, d3, d4]) ht hd ((el.length + sp.length) * Tryz.prog.bytesOf 69) (by
      rcases hh with rfl | rfl | rfl <;> simp [DataW.weights, DataW.weightsEach, Tryz.underlying25, Tryz.underlying22]))
    have hm' : (el.length + sp.length) * Tryz.prog.bytesOf 69 ≤ reachBytes := by simpa using hm
    rw [bytes_u32] at hm'
    unfold reachBytes at hm'
    omega
theorem reach_l {H : Type} {ts : List TypeId} {r : List (DataW H)} (hsz : (DataW.weightsEach Tryz.prog ts r).all (· ≤ reachBytes) = true) {j : Nat} {d0 d1 d2 d3 d4 : DataW H} (ht : ts[j]? = some 25) (hd : r[j]? = some (.agg [d0, d1, d2, d3, d4])) {n : Nat} {d : DataW H} (hh : d = d2 ∨ d = d4) (hr : ReadsN d n) : n * 24 ≤ 140737488351232 := by
  rcases hr with rfl | ⟨el, sp, rfl, hl⟩
  · simp
  · have hm := List.all_eq_true.1 hsz _ (DataW.weights_mem_each (j := j) (t := 25) (d := .agg [d0, d1, d2, d3, d4]) ht hd ((el.length + sp.length) * Tryz.prog.bytesOf 71) (by
      rcases hh with rfl | rfl <;> simp [DataW.weights, DataW.weightsEach, Tryz.underlying25, Tryz.underlying23]))
    have hm' : (el.length + sp.length) * Tryz.prog.bytesOf 71 ≤ reachBytes := by simpa using hm
    rw [bytes_lk] at hm'
    unfold reachBytes at hm'
    omega
set_option maxRecDepth 100000 in
theorem hier_open {H : Type} {enc : TypeId × Value → H} {W : World} {base : Nat} {v : Value} {d : DataW H} {p : List MemPlace} (hv : Value.okWide Tryz.prog W .any base 25 v) (h : DataW.Trod enc Tryz.prog W 0 (fun _ => true) true 25 v d p) :
    ∃ (x : HV) (a : Hr) (d0 d1 d2 d3 d4 : DataW H), v = hvl x a ∧ HasH W x a ∧ d = .agg [d0, d1, d2, d3, d4] ∧ ReadsN d0 a.node.length ∧ ReadsN d2 a.up.length ∧ ReadsN d4 a.dn.length ∧ ReadsN d1 a.upF.length ∧ ReadsN d3 a.dnF.length := by
  obtain ⟨cs, rfl, hsz⟩ := okWide_struct Tryz.underlying25 hv
  rw [cells_hier] at hsz
  obtain ⟨g0, g1, g2, g3, g4, rfl⟩ : ∃ g0 g1 g2 g3 g4, cs = #[g0, g1, g2, g3, g4] := by
    obtain ⟨l⟩ := cs
    match l, hsz with
    | [g0, g1, g2, g3, g4], _ => exact ⟨g0, g1, g2, g3, g4, rfl⟩
  obtain ⟨fuel, hf⟩ := h
  have hf' : DataW.trod enc Tryz.prog W 0 (fun _ => true) true fuel 25 [g0, g1, g2, g3, g4] = some (d, p) := hf
  obtain ⟨y0, y1, y2, y3, y4, m, hd, t0, t1, t2, t3, t4⟩ := trod_struct5 Tryz.underlying25 hf'
  rw [cells_u32s] at t0 t1 t3
  rw [cells_lks] at t2 t4
  simp at t0 t1 t2 t3 t4
  obtain ⟨o0, c0, l0, rfl, h0, b0⟩ := words_open t0
  obtain ⟨o1, c1, l1, rfl, h1, b1⟩ := words_open t1
  obtain ⟨o2, c2, l2, rfl, h2, b2⟩ := links_open t2
  obtain ⟨o3, c3, l3, rfl, h3, b3⟩ := words_open t3
  obtain ⟨o4, c4, l4, rfl, h4, b4⟩ := links_open t4
  exact ⟨⟨o0, o1, o2, o3, o4, c0, c1, c2, c3, c4⟩, ⟨l0, l1, l2, l3, l4⟩, y0.1, y1.1, y2.1, y3.1, y4.1, rfl, ⟨h0, h1, h2, h3, h4⟩, hd, b0, b2, b4, b1, b3⟩
end Go.Proofs.YthcdkokgfnidiaaGreatDoor.Hi

namespace Go.Proofs.YthcdkokgfnidiaaGreatDoor
open Go.ChangeShapes Go.WideShapes Go.RowKit Go.Deep

theorem Tryz.bytesI9 : Tryz.prog.bytesOf 3 = 8 := by kernel_rfl
/-- how a list of numbers reads. -/
def ReadsI {H : Type} (d : DataW H) (l : List Int) : Prop := l = [] ∨ ∃ el sp, d = .slice el sp ∧ el.length = l.length
set_option maxRecDepth 100000 in
theorem ints_open {H : Type} {enc : TypeId × Value → H} {W : World} {fuel : Nat} {g : Value} {y : DataW H × List MemPlace} (t1 : DataW.trod enc Tryz.prog W 0 (fun _ => true) true fuel 43 [g] = some y) :
    ∃ (ao : Option Addr) (cap : Nat) (l : List Int), g = .slice ao l.length cap ∧ HasInts W (.slice ao l.length cap) l ∧ ReadsI y.1 l ∧ l.length ≤ cap ∧ ∀ x ∈ l, (Lit.int .i64 x).wf = true := by
  rcases open_slice1 Tryz.underlying43 Tryz.cells3 t1 with ⟨hcs, _⟩ | ⟨a, len', cap', m, n, V, D, Pl, hcs, _, hl, hm, hmm, rfl, hx⟩
  · have e : g = .slice none 0 0 := by simpa using hcs
    subst e
    exact ⟨none, 0, [], rfl, ⟨none, 0, rfl, fun j q hj => by simp at hj⟩, Or.inl rfl, Nat.le_refl _, fun x hx => by cases hx⟩
  · have e : g = .slice (some a) len' cap' := by simpa using hcs
    subst e
    simp at hmm
    subst hmm
    have hq : ∀ i, i < len' → ∃ q : Int, W.cell? (a.add i) = some (.int .i64 q) ∧ (Lit.int .i64 q).wf = true := fun i hi => by
      obtain ⟨h1, h2⟩ := hx i (by omega)
      obtain ⟨x0, e0, _, e9⟩ := DataW.trod_int Tryz.underlying3 h2
      simp at e0
      rw [e0] at h1
      exact ⟨x0, h1, e9⟩
    obtain ⟨q, hq'⟩ := choose_lt hq
    have hlen : ((List.range len').map q).length = len' := by rw [List.length_map, List.length_range]
    refine ⟨some a, m, (List.range len').map q, by rw [hlen], ⟨some a, m, rfl, fun j r hj => ?_⟩, Or.inr ⟨_, _, rfl, by rw [List.length_map, List.length_range, hlen]⟩, by rw [hlen]; exact hl, fun x hx => by
      obtain ⟨j, hj, rfl⟩ := List.mem_map.1 hx
      exact (hq' j (List.mem_range.1 hj)).2⟩
    have hj' : j < len' := by
      have := (List.getElem?_eq_some_iff.1 hj).1
      rw [hlen] at this
      exact this
    have er : r = q j := by
      rw [List.getElem?_map, List.getElem?_range hj'] at hj
      exact (Option.some.inj hj).symm
    subst er
    have h0 := (hq' j hj').1
    obtain ⟨b, off, spot⟩ := a
    have hspot : spot = none := by
      have h00 := (hq' 0 (by omega)).1
      simpa [Addr.add] using World.cell?_spot h00
    subst hspot
    have e1 : (Addr.mk b off none).add j = ⟨b, off + j, none⟩ := add_plain _ _ _
    rw [e1] at h0
    refine ⟨b, off, rfl, ?_, h0⟩
    unfold World.cell? at h0
    rcases Nat.lt_or_ge b W.heap.size with h | h
    · exact h
    · simp [Array.getElem?_eq_none h] at h0
/-- a list takes no more than the form's reach. -/
theorem reach_ints {H : Type} {ts : List TypeId} {r : List (DataW H)} (hsz : (DataW.weightsEach Tryz.prog ts r).all (· ≤ reachBytes) = true) {j : Nat} {d : DataW H} {l : List Int} (ht : ts[j]? = some 43) (hd : r[j]? = some d) (hr : ReadsI d l) : l.length * 8 ≤ 140737488351232 := by
  rcases hr with rfl | ⟨el, sp, rfl, hl⟩
  · simp
  · have hm := List.all_eq_true.1 hsz _ (DataW.weights_mem_each (j := j) (t := 43) (d := .slice el sp) ht hd ((el.length + sp.length) * Tryz.prog.bytesOf 3) (by
      simp [DataW.weights, Tryz.underlying43]))
    have hm' : (el.length + sp.length) * Tryz.prog.bytesOf 3 ≤ reachBytes := by simpa using hm
    rw [Tryz.bytesI9] at hm'
    unfold reachBytes at hm'
    omega
set_option maxRecDepth 100000 in
theorem ints_open9 {H : Type} {enc : TypeId × Value → H} {W : World} {base : Nat} {v : Value} {d : DataW H} {p : List MemPlace} (hv : Value.okWide Tryz.prog W .any base 43 v) (h : DataW.Trod enc Tryz.prog W 0 (fun _ => true) true 43 v d p) :
    ∃ (ao : Option Addr) (cap : Nat) (l : List Int), v = .slice ao l.length cap ∧ HasInts W (.slice ao l.length cap) l ∧ ReadsI d l ∧ l.length ≤ cap ∧ ∀ x ∈ l, (Lit.int .i64 x).wf = true := by
  obtain ⟨a, len, cap, rfl⟩ := okWide_slice Tryz.underlying43 hv
  obtain ⟨fuel, hf⟩ := h
  have hf' : DataW.trod enc Tryz.prog W 0 (fun _ => true) true fuel 43 [.slice a len cap] = some (d, p) := hf
  exact ints_open hf'

end Go.Proofs.YthcdkokgfnidiaaGreatDoor

namespace Go.Proofs.YthcdkokgfnidiaaGreatDoor
open Go Go.ChangeShapes Go.WideShapes Go.RowKit Go.Deep Go.Extern Hi

set_option maxRecDepth 100000 in
theorem memory_lifted (os : Os) (started : os.Started) (H : Type) (enc : TypeId × Value → H) :
    ReturnsInHanded {} Tryz.checked os 4 .any (fun w args => (Rows.queryMemorySpec.pre enc Tryz.prog Tryz.f4 [] false w args ∧ laidMetH Tryz.prog laidAll w) ∧ sizedMet enc Tryz.prog Tryz.f4 (OpenSpec.ofChange Rows.queryMemorySpec) false w args)
      (Rows.queryMemorySpec.post enc Tryz.prog Tryz.f4 false true false false) := by
  refine returnsInHanded_of_change_and (C := Tryz.checked) (X := fun w _ => laidMetH Tryz.prog laidAll w) (fun _ _ _ hh h => h.of_heap hh) Tryz.own started (by kernel_rfl) Tryz.func4
    (ChangeSpec.witness_at (enc := enc) (C := Tryz.checked) (os := os) (X := fun w _ => laidMetH Tryz.prog laidAll w) false (laidHeap (World.holding Tryz.prog os ⟨#[], #[], []⟩)) #[.agg #[.slice none 0 0, .slice none 0 0, .slice none 0 0, .slice none 0 0, .slice none 0 0], .slice none 0 0] 8 rfl (by kernel_rfl) (by kernel_rfl) (by kernel_rfl) (by kernel_rfl) (by kernel_rfl) (laidHeap_met os _)) ?_
  intro W base args ds gs before hval0 hW _ hsz0 hL _
  have hval : ∀ (j : Nat) t v, Tryz.f4.params[j]? = some t → args[j]? = some v → Value.okWide Tryz.prog W .any base t v := hval0
  have hW' := hW
  obtain ⟨p, q, hA0, hV0, rfl, hfz, hnd⟩ := hW
  have hA : DataW.TrodAll enc Tryz.prog W 0 (fun _ => true) true Tryz.f4.params.toList args.toList ds p := hA0
  have hV : DataW.TrodVars enc Tryz.prog W (fun _ => true) [] gs q := hV0
  have hsz : (DataW.weightsEach Tryz.prog (Tryz.f4.params.toList ++ Rows.queryMemorySpec.plain.varTypes Tryz.prog) (ds ++ gs)).all (· ≤ reachBytes) = true := hsz0
  rw [Tryz.params4] at hA hval hsz
  obtain ⟨v0, vs0, d0, ds0, p0, q0, hargs, rfl, rfl, hr0, r0⟩ := trodAll_cons hA
  obtain ⟨v1, vs1, d1, ds1, p1, q1, rfl, rfl, rfl, hr1, r1⟩ := trodAll_cons r0
  obtain ⟨rfl, rfl, rfl⟩ := trodAll_nil r1
  obtain rfl : args = #[v0, v1] := by cases args; simp at hargs; simp [hargs]
  obtain ⟨rfl, rfl⟩ : gs = [] ∧ q = [] := by
    cases gs with
    | nil => exact ⟨rfl, hV⟩
    | cons g r => exact absurd hV (by intro h; cases h)
  obtain ⟨x, a, e0, e1, e2, e3, e4, rfl, hH, rfl, s0, s2, s4, s1, s3⟩ := hier_open (hval 0 25 v0 rfl rfl) hr0
  obtain ⟨ao, ac, xs, rfl, hx, _, _, _⟩ := ints_open9 (hval 1 43 v1 rfl rfl) hr1
  have ra : Hi.Reach a := ⟨reach_w hsz (j := 0) rfl rfl (Or.inl rfl) s0, reach_w hsz (j := 0) rfl rfl (Or.inr (Or.inl rfl)) s1, reach_l hsz (j := 0) rfl rfl (Or.inl rfl) s2, reach_w hsz (j := 0) rfl rfl (Or.inr (Or.inr rfl)) s3, reach_l hsz (j := 0) rfl rfl (Or.inr rfl) s4⟩
  refine (Qy.memory_calls x a ao ac xs W (hasType_of_laid hL) hH ra hx).mono fun e W' ⟨he, hw⟩ => ?_
  subst he
  exact ⟨_, rfl, post_of_law hW' rfl (by kernel_rfl) rfl (by rw [Tryz.params4]; intro t ht; simp at ht; rcases ht with rfl | rfl <;> exact ⟨by kernel_rfl, of_decide_eq_true (by kernel_rfl)⟩) hw⟩

theorem memory_row : Rows.QueryMemorySaid :=
  OpenClaim.holds_of_wide 4 Tryz.f4 rfl rfl rfl rfl rfl rfl rfl ⟨rfl, rfl, rfl, rfl, rfl⟩ rfl rfl rfl rfl rfl (by kernel_rfl) Tryz.func4 (by kernel_rfl)
    (of_decide_eq_true (by kernel_rfl)) (by unfold Func.isWrapper; rw [if_neg (of_decide_eq_false (by kernel_rfl))]; exact ⟨rfl, rfl⟩)
    (fun os started H enc _ => memory_lifted os started H enc)

theorem memory_card : Rows.QueryMemoryCardSaid :=
  Claim7.holds_tied_plain_at .later [] _ _ _ _
    memory_row (fun _ h => by cases h) (by kernel_rfl) (fun _ h => by cases h) queryMemory_row_tie rfl ⟨rfl, rfl⟩ (by kernel_rfl) rfl
    (fun f fn hf hfn => by
      obtain rfl : f = 4 := Option.some.inj ((show Tryz.prog.funcNamed "viaduct/viaductlaw21.QueryMemory" = some 4 by kernel_rfl).symm.trans hf) |>.symm
      obtain rfl : fn = Tryz.f4 := (Option.some.inj (Tryz.func4.symm.trans hfn)).symm
      exact ⟨by kernel_rfl, fun j t ht => by
        rw [Tryz.params4] at ht
        rcases j with _ | _ | j
        · obtain rfl : 25 = t := by simpa using ht
          exact (show Tryz.prog.wantsStandIn 25 = false by kernel_rfl)
        · obtain rfl : 43 = t := by simpa using ht
          exact (show Tryz.prog.wantsStandIn 43 = false by kernel_rfl)
        · simp at ht⟩)
    (by kernel_rfl)
#print axioms memory_card
end Go.Proofs.YthcdkokgfnidiaaGreatDoor
