/- HierMemory holds: for every hierarchy the law answers true and its argument reads as it did. No condition beside the row's own. (genmb.py) -/
import Derived.Test.YtkehpmbnbknpfaaHgB
import Derived.Test.YtkehpmbnbknpfaaHeX
import Derived.Test.YtkehpmbnbknpfaaHrW
import Derived.SizedLaws
namespace Go.Proofs.Ytkehpmbnbknpfaa.Hi
open Go.ChangeShapes Go.WideShapes Go.ChangeAt Go.RowKit Go.Deep Go.Extern Go.Shelf

attribute [local go_sem] Oper.semAt_some

theorem few_ofM {h : Hr} (hg : greatB h = false) (hc : chk h = (0, [])) : (stds h).length ≤ 2000 := by
  obtain ⟨k1, k2, k3, k4, k5, k6, k7, k8⟩ := chk_ok hc
  rw [stds_len k5 k6]
  unfold greatB at hg
  simp at hg
  omega
theorem KAns.oneM {h : Hr} {L K : List Int} (a : KAns h L) (b : KAns h K) : L = K := by
  rcases a with ⟨a1, rfl⟩ | ⟨a1, rfl⟩ <;> rcases b with ⟨b1, rfl⟩ | ⟨b1, rfl⟩
  · rfl
  · exact absurd a1 b1
  · exact absurd b1 a1
  · rfl
theorem KAns.fewM {h : Hr} {L : List Int} (a : KAns h L) : L.length ≤ 65536 := by
  rcases a with ⟨hc, rfl⟩ | ⟨_, rfl⟩
  · obtain ⟨k1, _⟩ := chk_ok hc
    unfold intsL
    rw [List.length_map, rkM_len]
    exact k1
  · exact Nat.zero_le _
theorem GAns.fewM {h : Hr} {N : Int} {L : List (Int × Int × Int)} (a : GAns h N L) : L.length ≤ 1048576 := by
  rcases a with ⟨hc, _, rfl⟩ | ⟨_, _, rfl⟩
  · obtain ⟨k1, k2, k3, k4, k5, k6, k7, k8⟩ := chk_ok hc
    rw [sortE_len]
    have := gArcs_len h (stds h)
    rw [stds_len k5 k6] at this
    omega
  · exact Nat.zero_le _
theorem TAns.reachM {h H : Hr} (a : TAns h H) (s : Reach h) : Reach H := by
  rcases a with ⟨_, rfl⟩ | ⟨_, rfl⟩
  · unfold turnH
    obtain ⟨s1, s2, s3, s4, s5⟩ := s
    exact ⟨s1, s4, by simpa using s5, s2, by simpa using s3⟩
  · unfold noH
    exact ⟨by decide, by decide, by decide, by decide, by decide⟩
theorem graph_own (v : HV) (h : Hr) (w : World) (hH : HasH w v h) (hb1 : h.up.length ≤ 1152921504606846976) (hb2 : h.dn.length ≤ 1152921504606846976) (hb3 : h.node.length ≤ 1152921504606846976) :
    Calls Try.prog 8 #[hvl v h] w fun e w' => ∃ N L lo c g, GAns h N L ∧ e = .returned (.tuple #[.agg #[.int .i64 N, .slice lo L.length c], g]) ∧ HasArcs w' (.slice lo L.length c) L ∧ Wr w' lo (L.length * 3) ∧ (∀ a, lo = some a → w.heap.size ≤ a.block ∧ a.block < w'.heap.size) ∧ Below w.heap.size w w' := by
  refine (graph_callsF v h w hH hb1 hb2 hb3).mono ?_
  rintro e w' ⟨N, lo, k, c, u, L, rfl, hb, ha, ⟨hw, hi⟩, hu⟩
  have hk : k = L.length := by obtain ⟨ao, cap, e, _⟩ := ha; injection e
  subst hk
  rcases hu with ⟨hc, rfl, rfl, rfl⟩ | ⟨hc, rfl, rfl, ht⟩
  · exact ⟨_, _, lo, c, _, Or.inl ⟨hc, rfl, rfl⟩, rfl, ha, hw, hi, hb⟩
  · exact ⟨_, _, lo, c, _, Or.inr ⟨hc, rfl, rfl⟩, rfl, ha, hw, hi, hb⟩
theorem ranks_own (v : HV) (h : Hr) (w : World) (hH : HasH w v h) (hb1 : h.up.length ≤ 1152921504606846976) (hb2 : h.dn.length ≤ 1152921504606846976) (hb3 : h.node.length ≤ 1152921504606846976) :
    Calls Try.prog 9 #[hvl v h] w fun e w' => ∃ lo c L g, KAns h L ∧ e = .returned (.tuple #[.slice lo L.length c, g]) ∧ HasInts w' (.slice lo L.length c) L ∧ Wr w' lo L.length ∧ (∀ a, lo = some a → w.heap.size ≤ a.block ∧ a.block < w'.heap.size) ∧ Below w.heap.size w w' := by
  refine (ranks_callsF v h w hH hb1 hb2 hb3).mono ?_
  rintro e w' ⟨lo, k, c, u, L, rfl, hb, hi, ⟨hw, hn⟩, hu⟩
  have hk : k = L.length := by obtain ⟨ao, cap, e, _⟩ := hi; injection e
  subst hk
  rcases hu with ⟨hc, rfl, rfl⟩ | ⟨hc, rfl, ht⟩
  · exact ⟨lo, c, _, _, Or.inl ⟨hc, rfl⟩, rfl, hi, hw, hn, hb⟩
  · exact ⟨lo, c, _, _, Or.inr ⟨hc, rfl⟩, rfl, hi, hw, hn, hb⟩
/-- the blocks of a hierarchy's five rows. -/
def Blk (u : HV) (h : Hr) (k : Nat) : Prop := (Value.slice u.no h.node.length u.nc).ownBlock = some k ∨ (Value.slice u.uo h.upF.length u.uc).ownBlock = some k ∨ (Value.slice u.ul h.up.length u.ulc).ownBlock = some k ∨ (Value.slice u.wo h.dnF.length u.wc).ownBlock = some k ∨ (Value.slice u.dl h.dn.length u.dlc).ownBlock = some k
theorem OwnH.blk {w : World} {B : Nat} {u : HV} {h : Hr} (g : OwnH w B u h) {k : Nat} (hk : Blk u h k) : B ≤ k ∧ k < w.heap.size := by
  rcases hk with e | e | e | e | e
  · exact g.node.lt k e
  · exact g.upF.lt k e
  · exact g.up.lt k e
  · exact g.dnF.lt k e
  · exact g.dn.lt k e
theorem OwnH.safe {w w' : World} {B : Nat} {u : HV} {h : Hr} (g : OwnH w B u h) (hs : ∀ k, Blk u h k → w'.heap[k]? = w.heap[k]?) : OwnH w' B u h :=
  ⟨own_keep g.node fun k _ e hh => (hs k (.inl e)).trans hh, own_keep g.upF fun k _ e hh => (hs k (.inr (.inl e))).trans hh, own_keep g.up fun k _ e hh => (hs k (.inr (.inr (.inl e)))).trans hh, own_keep g.dnF fun k _ e hh => (hs k (.inr (.inr (.inr (.inl e))))).trans hh, own_keep g.dn fun k _ e hh => (hs k (.inr (.inr (.inr (.inr e))))).trans hh⟩
theorem OwnH.grow {w w' : World} {B : Nat} {u : HV} {h : Hr} (g : OwnH w B u h) (hb : Below w.heap.size w w') : OwnH w' B u h := g.safe fun k hk => hb.block k (g.blk hk).2
theorem loose_of {w : World} {B : Nat} {T : TypeId} {z n : Nat} {v : Value} {xs : List Value} (g : w.ownsRow B T z v n xs) : Loose w T z v n := ⟨xs, own_lowO g (Nat.zero_le _)⟩
theorem ints_safe {w w' : World} {lo : Option Addr} {k c : Nat} {L : List Int} (h : HasInts w (.slice lo k c) L) (hs : w.heap.size ≤ w'.heap.size) (hb : ∀ a, lo = some a → w'.heap[a.block]? = w.heap[a.block]?) : HasInts w' (.slice lo k c) L := by
  obtain ⟨ao, cap, e, hc⟩ := h
  refine ⟨ao, cap, e, fun j a hj => ?_⟩
  obtain ⟨b, off, ea, hl, h0⟩ := hc j a hj
  injection e with e1 _ _
  have hh := hb _ (e1.trans ea)
  exact ⟨b, off, ea, Nat.lt_of_lt_of_le hl hs, (World.cell?_of_block (w := w) (w' := w') (a := ⟨b, off + j, none⟩) hh).trans h0⟩
theorem build_six (a b c d e f : Option Addr) (m n o p q r k l s t u v : Nat) (wx : World) : (Instr.buildSlice 42 6 #[(0, .slice a m k), (1, .slice b n l), (2, .slice c o s), (3, .slice d p t), (4, .slice e q u), (5, .slice f r v)]).run Try.prog wx = .ok (.slice (some ⟨wx.heap.size, 0, none⟩) 6 6) (wx.alloc (.cells #[.slice a m k, .slice b n l, .slice c o s, .slice d p t, .slice e q u, .slice f r v] 22)) := by kernel_rfl
theorem build_fourL (a b c d : Option Addr) (m n o p k l s t : Nat) (wx : World) : (Instr.buildSlice 44 4 #[(0, .slice a m k), (1, .slice b n l), (2, .slice c o s), (3, .slice d p t)]).run Try.prog wx = .ok (.slice (some ⟨wx.heap.size, 0, none⟩) 4 4) (wx.alloc (.cells #[.slice a m k, .slice b n l, .slice c o s, .slice d p t] 23)) := by kernel_rfl
theorem build_l9 (wx : World) : (Instr.build 47 #[(0, .int .u32 9)]).run Try.prog wx = .ok (.agg #[.int .u32 9, .int .u64 0, .int .u32 0, .int .u32 0]) wx := by kernel_rfl
theorem build_a9 (wx : World) : (Instr.build 49 #[(0, .int .i64 (-1))]).run Try.prog wx = .ok (.agg #[.int .i64 (-1), .int .i64 0, .int .i64 0]) wx := by kernel_rfl

set_option maxRecDepth 100000 in
set_option maxHeartbeats 16000000 in
theorem memory_aux (no uo ul wo dl : Option Addr) (nc uc ulc wc dlc : Nat) (h : Hr) (w : World) (hH : HasH w ⟨no, uo, ul, wo, dl, nc, uc, ulc, wc, dlc⟩ h) (hr : Reach h) :
    Calls Try.prog 3 #[hvl ⟨no, uo, ul, wo, dl, nc, uc, ulc, wc, dlc⟩ h] w fun e w' => e = .returned (.bool true) ∧ Below w.heap.size w w' := by
  have hb1 : h.up.length ≤ 1152921504606846976 := by have := hr.up; omega
  have hb2 : h.dn.length ≤ 1152921504606846976 := by have := hr.dn; omega
  have hb3 : h.node.length ≤ 1152921504606846976 := by have := hr.node; omega
  obtain ⟨z, hz⟩ : ∃ z, w.heap.size = z := ⟨_, rfl⟩
  obtain ⟨W0, hW0⟩ : ∃ W0, w.alloc (.cells #[.slice no h.node.length nc, .slice uo h.upF.length uc, .slice ul h.up.length ulc, .slice wo h.dnF.length wc, .slice dl h.dn.length dlc] 25) = W0 := ⟨_, rfl⟩
  have hs0 : W0.heap.size = z + 1 := by rw [← hW0]; simp [hz]
  have HQ : Hid (∀ wx, Below W0.heap.size W0 wx → wx.heap[z]? = some (.cells #[.slice no h.node.length nc, .slice uo h.upF.length uc, .slice ul h.up.length ulc, .slice wo h.dnF.length wc, .slice dl h.dn.length dlc] 25) ∧ HasH wx ⟨no, uo, ul, wo, dl, nc, uc, ulc, wc, dlc⟩ h ∧ Below w.heap.size w wx) := fun wx hx => by
    have h1 : W0.heap[z]? = some (.cells #[.slice no h.node.length nc, .slice uo h.upF.length uc, .slice ul h.up.length ulc, .slice wo h.dnF.length wc, .slice dl h.dn.length dlc] 25) := by rw [← hW0, ← hz]; exact heap_newW _ _
    have h2 : Below w.heap.size w W0 := by rw [← hW0]; exact (Below.refl _ _).alloc (Nat.le_refl _) _
    have h3 := btrH' h2 hx
    exact ⟨(hx.block _ (some_lt h1)).trans h1, hH.keep h3, h3⟩
  have HKW : Hid (∀ wx, Below w.heap.size w wx → HasH wx ⟨no, uo, ul, wo, dl, nc, uc, ulc, wc, dlc⟩ h) := fun wx hx => hH.keep hx
  have HN0 : Hid (w.heap.size = z ∧ W0.heap.size = z + 1) := ⟨hz, hs0⟩
  have HW0 : Hid (w.alloc (.cells #[.slice no h.node.length nc, .slice uo h.upF.length uc, .slice ul h.up.length ulc, .slice wo h.dnF.length wc, .slice dl h.dn.length dlc] 25) = W0) := hW0
  have HGR : Hid (∀ wx, Calls Try.prog 5 #[hvl ⟨no, uo, ul, wo, dl, nc, uc, ulc, wc, dlc⟩ h] wx fun e w' => e = .returned (.bool (greatB h)) ∧ Below wx.heap.size wx w') := fun wx => great_calls _ h wx hb1 hb2
  have HTW : Hid (∀ wx, Below W0.heap.size W0 wx → Calls Try.prog 6 #[hvl ⟨no, uo, ul, wo, dl, nc, uc, ulc, wc, dlc⟩ h] wx fun e w' => ∃ u, e = .returned (hvl u h) ∧ OwnH w' wx.heap.size u h ∧ Below wx.heap.size wx w') := fun wx hx => twin_own _ h wx (HQ.out wx hx).2.1 hr
  have HTU : Hid (∀ (v : HV) (wx : World), HasH wx v h → Calls Try.prog 7 #[hvl v h] wx fun e w' => ∃ u H g, TAns h H ∧ e = .returned (.tuple #[hvl u H, g]) ∧ HasH w' u H ∧ OwnH w' wx.heap.size u H ∧ Below wx.heap.size wx w') := fun v wx hx => turn_own v h wx hx hb1 hb2 hb3
  have HGX : Hid (∀ (v : HV) (wx : World), HasH wx v h → Calls Try.prog 8 #[hvl v h] wx fun e w' => ∃ N L lo c g, GAns h N L ∧ e = .returned (.tuple #[.agg #[.int .i64 N, .slice lo L.length c], g]) ∧ HasArcs w' (.slice lo L.length c) L ∧ Wr w' lo (L.length * 3) ∧ (∀ a, lo = some a → wx.heap.size ≤ a.block ∧ a.block < w'.heap.size) ∧ Below wx.heap.size wx w') := fun v wx hx => graph_own v h wx hx hb1 hb2 hb3
  have HRX : Hid (∀ (v : HV) (wx : World), HasH wx v h → Calls Try.prog 9 #[hvl v h] wx fun e w' => ∃ lo c L g, KAns h L ∧ e = .returned (.tuple #[.slice lo L.length c, g]) ∧ HasInts w' (.slice lo L.length c) L ∧ Wr w' lo L.length ∧ (∀ a, lo = some a → wx.heap.size ≤ a.block ∧ a.block < w'.heap.size) ∧ Below wx.heap.size wx w') := fun v wx hx => ranks_own v h wx hx hb1 hb2 hb3
  have HSX : Hid (∀ (v : HV) (wx : World), HasH wx v h → Calls Try.prog 10 #[hvl v h, hvl v h] wx fun e w' => e = .returned (.bool true) ∧ Below wx.heap.size wx w') := fun v wx hx => by
    have g := hSame_calls v v h h wx hx hx hr.short
    rw [decide_eq_true (rfl : h = h)] at g
    exact g
  have HSH : Hid (∀ (v : HV) (wx : World), HasH wx v h → HasH wx ⟨no, uo, ul, wo, dl, nc, uc, ulc, wc, dlc⟩ h → Calls Try.prog 11 #[hvl v h, hvl ⟨no, uo, ul, wo, dl, nc, uc, ulc, wc, dlc⟩ h] wx fun e w' => e = .returned (.bool true) ∧ Below wx.heap.size wx w') := fun v wx hx hy => by
    have g := tSame_calls v ⟨no, uo, ul, wo, dl, nc, uc, ulc, wc, dlc⟩ h h wx hx hy hr.short
    rw [decide_eq_true (rfl : h = h)] at g
    exact g
  have HDG : Hid (greatB h = false → ∀ wx, HasH wx ⟨no, uo, ul, wo, dl, nc, uc, ulc, wc, dlc⟩ h → Calls Try.prog 13 #[hvl ⟨no, uo, ul, wo, dl, nc, uc, ulc, wc, dlc⟩ h] wx fun e w' => ∃ N L lo c eo ec, GAns h N L ∧ e = .returned (.tuple #[.agg #[.int .i64 N, .slice lo L.length c], .agg #[.int .i64 (chk h).1, .slice eo (chk h).2.length ec]]) ∧ HasArcs w' (.slice lo L.length c) L ∧ HasPlaces w' (.slice eo (chk h).2.length ec) (chk h).2 ∧ Below wx.heap.size wx w') := fun hg wx hx => docGraph_calls _ h wx hx hb1 hb2 hb3 (fun hc => Nat.le_trans (few_ofM hg hc) (by decide))
  have HDR : Hid (∀ wx, HasH wx ⟨no, uo, ul, wo, dl, nc, uc, ulc, wc, dlc⟩ h → Calls Try.prog 14 #[hvl ⟨no, uo, ul, wo, dl, nc, uc, ulc, wc, dlc⟩ h] wx fun e w' => ∃ ao k c L lo lc, KAns h L ∧ e = .returned (.tuple #[.slice ao k c, .agg #[.int .i64 (chk h).1, .slice lo (chk h).2.length lc]]) ∧ HasInts w' (.slice ao k c) L ∧ HasPlaces w' (.slice lo (chk h).2.length lc) (chk h).2 ∧ (∀ a, ao = some a → wx.heap.size ≤ a.block) ∧ Below wx.heap.size wx w') := fun wx hx => docRanks_calls _ h wx hx hb1 hb2 hb3
  have HDT : Hid (∀ wx, HasH wx ⟨no, uo, ul, wo, dl, nc, uc, ulc, wc, dlc⟩ h → Calls Try.prog 12 #[hvl ⟨no, uo, ul, wo, dl, nc, uc, ulc, wc, dlc⟩ h] wx fun e w' => ∃ u H lo lc, TAns h H ∧ e = .returned (.tuple #[hvl u H, .agg #[.int .i64 (chk h).1, .slice lo (chk h).2.length lc]]) ∧ HasH w' u H ∧ HasPlaces w' (.slice lo (chk h).2.length lc) (chk h).2 ∧ Below wx.heap.size wx w') := fun wx hx => docTurn_calls _ h wx hx hb1 hb2 hb3
  have HRH : Hid (Reach h) := hr
  clear hW0 hH hr hs0
  have eHV : hvl ⟨no, uo, ul, wo, dl, nc, uc, ulc, wc, dlc⟩ h = .agg #[.slice no h.node.length nc, .slice uo h.upF.length uc, .slice ul h.up.length ulc, .slice wo h.dnF.length wc, .slice dl h.dn.length dlc] := rfl
  rw [eHV] at HGR HTW HDG HDR HDT HSH ⊢
  clear eHV
  go_enter Try.func3, Try.ntmps3
  go_wp2_with fail
  rw [HW0.out]
  clear HW0 hz
  refine (awake10_calls W0).mono ?_
  rintro e w1 ⟨rfl, hb⟩
  have HB1 : Hid (Below W0.heap.size W0 w1) := hb
  clear hb
  obtain ⟨c0, c1, c2, c3, c4⟩ := five_cells (HQ.out w1 HB1.out).1
  go_wp2_with fail
  refine (HGR.out w1).mono ?_
  rintro e w2 ⟨rfl, hb⟩
  have HB2 : Hid (Below W0.heap.size W0 w2) := btrH' HB1.out hb
  clear hb c0 c1 c2 c3 c4
  by_cases hgr : greatB h = true
  · rw [hgr]
    go_wp2
    go_ret
    exact ⟨rfl, (HQ.out w2 HB2.out).2.2⟩
  rw [Bool.not_eq_true] at hgr
  rw [hgr]
  have HGB : Hid (greatB h = false) := hgr
  clear hgr
  obtain ⟨c0, c1, c2, c3, c4⟩ := five_cells (HQ.out w2 HB2.out).1
  go_wp2_with fail
  refine (HTW.out w2 HB2.out).mono ?_
  rintro e a1 ⟨xv, rfl, hox, hb⟩
  obtain ⟨x0, x1, x2, x3, x4, kx0, kx1, kx2, kx3, kx4⟩ := xv
  have eX : hvl ⟨x0, x1, x2, x3, x4, kx0, kx1, kx2, kx3, kx4⟩ h = .agg #[.slice x0 h.node.length kx0, .slice x1 h.upF.length kx1, .slice x2 h.up.length kx2, .slice x3 h.dnF.length kx3, .slice x4 h.dn.length kx4] := rfl
  rw [eX]
  obtain ⟨px, hpx⟩ : ∃ p, a1.heap.size = p := ⟨_, rfl⟩
  obtain ⟨V1, hV⟩ : ∃ V, a1.alloc (.cells #[.slice x0 h.node.length kx0, .slice x1 h.upF.length kx1, .slice x2 h.up.length kx2, .slice x3 h.dnF.length kx3, .slice x4 h.dn.length kx4] 25) = V := ⟨_, rfl⟩
  have HV : Hid (a1.alloc (.cells #[.slice x0 h.node.length kx0, .slice x1 h.upF.length kx1, .slice x2 h.up.length kx2, .slice x3 h.dnF.length kx3, .slice x4 h.dn.length kx4] 25) = V1) := hV
  have HN1 : Hid (z + 1 ≤ w2.heap.size ∧ w2.heap.size ≤ px ∧ V1.heap.size = px + 1) := ⟨by have := HB2.out.size; have := HN0.out.2; omega, by have := hb.size; omega, by rw [← hV]; simp [hpx]⟩
  have F1 : Hid (∀ wx, Below V1.heap.size V1 wx → wx.heap[px]? = some (.cells #[.slice x0 h.node.length kx0, .slice x1 h.upF.length kx1, .slice x2 h.up.length kx2, .slice x3 h.dnF.length kx3, .slice x4 h.dn.length kx4] 25) ∧ OwnH wx w2.heap.size ⟨x0, x1, x2, x3, x4, kx0, kx1, kx2, kx3, kx4⟩ h ∧ HasH wx ⟨x0, x1, x2, x3, x4, kx0, kx1, kx2, kx3, kx4⟩ h ∧ Below W0.heap.size W0 wx) := fun wx hx => by
    have g1 : V1.heap[px]? = some (.cells #[.slice x0 h.node.length kx0, .slice x1 h.upF.length kx1, .slice x2 h.up.length kx2, .slice x3 h.dnF.length kx3, .slice x4 h.dn.length kx4] 25) := by rw [← hV, ← hpx]; exact heap_newW _ _
    have g2 : Below a1.heap.size a1 V1 := by rw [← hV]; exact (Below.refl _ _).alloc (Nat.le_refl _) _
    have g3 := hox.grow (btrH' g2 hx)
    have g4 := btrH' HB2.out (btrH' hb (btrH' g2 hx))
    exact ⟨(hx.block _ (some_lt g1)).trans g1, g3, g3.has_of (HQ.out wx g4).2.1, g4⟩
  have HXB : Hid (∀ k, Blk ⟨x0, x1, x2, x3, x4, kx0, kx1, kx2, kx3, kx4⟩ h k → w2.heap.size ≤ k ∧ k < px) := fun k hk => by have := hox.blk hk; omega
  have HTX := HTU.out ⟨x0, x1, x2, x3, x4, kx0, kx1, kx2, kx3, kx4⟩
  have HGX1 := HGX.out ⟨x0, x1, x2, x3, x4, kx0, kx1, kx2, kx3, kx4⟩
  have HRX1 := HRX.out ⟨x0, x1, x2, x3, x4, kx0, kx1, kx2, kx3, kx4⟩
  have HSX1 := HSX.out ⟨x0, x1, x2, x3, x4, kx0, kx1, kx2, kx3, kx4⟩
  have HSH1 := HSH.out ⟨x0, x1, x2, x3, x4, kx0, kx1, kx2, kx3, kx4⟩
  rw [eX] at HTX HGX1 HRX1 HSX1 HSH1
  have CT : Hid (type_of% HTX) := HTX
  have CG : Hid (type_of% HGX1) := HGX1
  have CR : Hid (type_of% HRX1) := HRX1
  have CS : Hid (type_of% HSX1) := HSX1
  have CH : Hid (type_of% HSH1) := HSH1
  clear hox hb hV eX c0 c1 c2 c3 c4 HTX HGX1 HRX1 HSX1 HSH1
  go_upto_region 6 with fail
  rw [HV.out]
  clear HV hpx
  have BV1 : Hid (∀ wx, Below V1.heap.size V1 wx → Below V1.heap.size V1 wx) := fun wx hx => hx
  obtain ⟨c0, c1, c2, c3, c4⟩ := five_cells (F1.out V1 (BV1.out V1 (Below.refl _ _))).1
  go_wp2_with fail
  refine (CT.out V1 (F1.out V1 (BV1.out V1 (Below.refl _ _))).2.2.1).mono ?_
  rintro e b2 ⟨tv, H, g2, hTA, rfl, hht, hot, hb⟩
  have HTA : Hid (TAns h H) := hTA
  obtain ⟨t0, t1, t2, t3, t4, kt0, kt1, kt2, kt3, kt4⟩ := tv
  have eT : hvl ⟨t0, t1, t2, t3, t4, kt0, kt1, kt2, kt3, kt4⟩ H = .agg #[.slice t0 H.node.length kt0, .slice t1 H.upF.length kt1, .slice t2 H.up.length kt2, .slice t3 H.dnF.length kt3, .slice t4 H.dn.length kt4] := rfl
  rw [eT]
  obtain ⟨pt, hpn⟩ : ∃ p, b2.heap.size = p := ⟨_, rfl⟩
  obtain ⟨V2, hV⟩ : ∃ V, b2.alloc (.cells #[.slice t0 H.node.length kt0, .slice t1 H.upF.length kt1, .slice t2 H.up.length kt2, .slice t3 H.dnF.length kt3, .slice t4 H.dn.length kt4] 25) = V := ⟨_, rfl⟩
  have HV : Hid (b2.alloc (.cells #[.slice t0 H.node.length kt0, .slice t1 H.upF.length kt1, .slice t2 H.up.length kt2, .slice t3 H.dnF.length kt3, .slice t4 H.dn.length kt4] 25) = V2) := hV
  have HN2 : Hid (V1.heap.size ≤ pt ∧ V2.heap.size = pt + 1) := ⟨by have := hb.size; omega, by rw [← hV]; simp [hpn]⟩
  have BV2 : Hid (∀ wx, Below V2.heap.size V2 wx → Below V1.heap.size V1 wx ∧ Below V1.heap.size V1 wx) := fun wx hx => by
    have g2 : Below b2.heap.size b2 V2 := by rw [← hV]; exact (Below.refl _ _).alloc (Nat.le_refl _) _
    exact ⟨BV1.out _ (btrH' hb (btrH' g2 hx)), btrH' hb (btrH' g2 hx)⟩
  have FF2 : Hid (∀ wx, Below V2.heap.size V2 wx → wx.heap[pt]? = some (.cells #[.slice t0 H.node.length kt0, .slice t1 H.upF.length kt1, .slice t2 H.up.length kt2, .slice t3 H.dnF.length kt3, .slice t4 H.dn.length kt4] 25) ∧ OwnH wx V1.heap.size ⟨t0, t1, t2, t3, t4, kt0, kt1, kt2, kt3, kt4⟩ H ∧ HasH wx ⟨t0, t1, t2, t3, t4, kt0, kt1, kt2, kt3, kt4⟩ H) := fun wx hx => by
    have g1 : V2.heap[pt]? = some (.cells #[.slice t0 H.node.length kt0, .slice t1 H.upF.length kt1, .slice t2 H.up.length kt2, .slice t3 H.dnF.length kt3, .slice t4 H.dn.length kt4] 25) := by rw [← hV, ← hpn]; exact heap_newW _ _
    have g2 : Below b2.heap.size b2 V2 := by rw [← hV]; exact (Below.refl _ _).alloc (Nat.le_refl _) _
    exact ⟨(hx.block _ (some_lt g1)).trans g1, hot.grow (btrH' g2 hx), hht.keep (btrH' g2 hx)⟩
  have HBB2 : Hid (∀ k, Blk ⟨t0, t1, t2, t3, t4, kt0, kt1, kt2, kt3, kt4⟩ H k → V1.heap.size ≤ k ∧ k < pt) := fun k hk => by have := hot.blk hk; omega
  clear hot hht hb hV eT hTA c0 c1 c2 c3 c4
  go_upto_region 7 with fail
  rw [HV.out]
  clear HV hpn
  obtain ⟨c0, c1, c2, c3, c4⟩ := five_cells (F1.out V2 ((BV2.out V2 (Below.refl _ _)).1)).1
  go_wp2_with fail
  refine (CT.out V2 (F1.out V2 ((BV2.out V2 (Below.refl _ _)).1)).2.2.1).mono ?_
  rintro e b3 ⟨tv, H', g3, hTA, rfl, hht, hot, hb⟩
  have hHH := hTA.one HTA.out
  subst H'
  obtain ⟨yu0, yu1, yu2, yu3, yu4, ku0, ku1, ku2, ku3, ku4⟩ := tv
  have eT : hvl ⟨yu0, yu1, yu2, yu3, yu4, ku0, ku1, ku2, ku3, ku4⟩ H = .agg #[.slice yu0 H.node.length ku0, .slice yu1 H.upF.length ku1, .slice yu2 H.up.length ku2, .slice yu3 H.dnF.length ku3, .slice yu4 H.dn.length ku4] := rfl
  rw [eT]
  obtain ⟨pu, hpn⟩ : ∃ p, b3.heap.size = p := ⟨_, rfl⟩
  obtain ⟨V3, hV⟩ : ∃ V, b3.alloc (.cells #[.slice yu0 H.node.length ku0, .slice yu1 H.upF.length ku1, .slice yu2 H.up.length ku2, .slice yu3 H.dnF.length ku3, .slice yu4 H.dn.length ku4] 25) = V := ⟨_, rfl⟩
  have HV : Hid (b3.alloc (.cells #[.slice yu0 H.node.length ku0, .slice yu1 H.upF.length ku1, .slice yu2 H.up.length ku2, .slice yu3 H.dnF.length ku3, .slice yu4 H.dn.length ku4] 25) = V3) := hV
  have HN3 : Hid (V2.heap.size ≤ pu ∧ V3.heap.size = pu + 1) := ⟨by have := hb.size; omega, by rw [← hV]; simp [hpn]⟩
  have BV3 : Hid (∀ wx, Below V3.heap.size V3 wx → Below V1.heap.size V1 wx ∧ Below V2.heap.size V2 wx) := fun wx hx => by
    have g2 : Below b3.heap.size b3 V3 := by rw [← hV]; exact (Below.refl _ _).alloc (Nat.le_refl _) _
    exact ⟨(BV2.out _ (btrH' hb (btrH' g2 hx))).1, btrH' hb (btrH' g2 hx)⟩
  have FF3 : Hid (∀ wx, Below V3.heap.size V3 wx → wx.heap[pu]? = some (.cells #[.slice yu0 H.node.length ku0, .slice yu1 H.upF.length ku1, .slice yu2 H.up.length ku2, .slice yu3 H.dnF.length ku3, .slice yu4 H.dn.length ku4] 25) ∧ OwnH wx V2.heap.size ⟨yu0, yu1, yu2, yu3, yu4, ku0, ku1, ku2, ku3, ku4⟩ H ∧ HasH wx ⟨yu0, yu1, yu2, yu3, yu4, ku0, ku1, ku2, ku3, ku4⟩ H) := fun wx hx => by
    have g1 : V3.heap[pu]? = some (.cells #[.slice yu0 H.node.length ku0, .slice yu1 H.upF.length ku1, .slice yu2 H.up.length ku2, .slice yu3 H.dnF.length ku3, .slice yu4 H.dn.length ku4] 25) := by rw [← hV, ← hpn]; exact heap_newW _ _
    have g2 : Below b3.heap.size b3 V3 := by rw [← hV]; exact (Below.refl _ _).alloc (Nat.le_refl _) _
    exact ⟨(hx.block _ (some_lt g1)).trans g1, hot.grow (btrH' g2 hx), hht.keep (btrH' g2 hx)⟩
  have HBB3 : Hid (∀ k, Blk ⟨yu0, yu1, yu2, yu3, yu4, ku0, ku1, ku2, ku3, ku4⟩ H k → V2.heap.size ≤ k ∧ k < pu) := fun k hk => by have := hot.blk hk; omega
  clear hot hht hb hV eT hTA c0 c1 c2 c3 c4
  go_upto_region 8 with fail
  rw [HV.out]
  clear HV hpn
  obtain ⟨c0, c1, c2, c3, c4⟩ := five_cells (F1.out V3 (BV3.out V3 (Below.refl _ _)).1).1
  go_wp2_with fail
  refine (CG.out V3 (F1.out V3 (BV3.out V3 (Below.refl _ _)).1).2.2.1).mono ?_
  rintro e b4 ⟨N, L, lo, lc, g4, hGA, rfl, hha, hwr, hin, hb⟩
  have HGA : Hid (GAns h N L) := hGA
  obtain ⟨pg, hpn⟩ : ∃ p, b4.heap.size = p := ⟨_, rfl⟩
  obtain ⟨V4, hV⟩ : ∃ V, b4.alloc (.cells #[.int .i64 N, .slice lo L.length lc] 35) = V := ⟨_, rfl⟩
  have HV : Hid (b4.alloc (.cells #[.int .i64 N, .slice lo L.length lc] 35) = V4) := hV
  have HN4 : Hid (V3.heap.size ≤ pg ∧ V4.heap.size = pg + 1) := ⟨by have := hb.size; omega, by rw [← hV]; simp [hpn]⟩
  have BV4 : Hid (∀ wx, Below V4.heap.size V4 wx → Below V1.heap.size V1 wx ∧ Below V3.heap.size V3 wx) := fun wx hx => by
    have g2 : Below b4.heap.size b4 V4 := by rw [← hV]; exact (Below.refl _ _).alloc (Nat.le_refl _) _
    exact ⟨(BV3.out _ (btrH' hb (btrH' g2 hx))).1, btrH' hb (btrH' g2 hx)⟩
  have FF4 : Hid (∀ wx, Below V4.heap.size V4 wx → wx.heap[pg]? = some (.cells #[.int .i64 N, .slice lo L.length lc] 35) ∧ HasArcs wx (.slice lo L.length lc) L ∧ Wr wx lo (L.length * 3)) := fun wx hx => by
    have g1 : V4.heap[pg]? = some (.cells #[.int .i64 N, .slice lo L.length lc] 35) := by rw [← hV, ← hpn]; exact heap_newW _ _
    have g2 : Below b4.heap.size b4 V4 := by rw [← hV]; exact (Below.refl _ _).alloc (Nat.le_refl _) _
    exact ⟨(hx.block _ (some_lt g1)).trans g1, hha.keep (btrH' g2 hx), hwr.shp (Shp.below (btrH' g2 hx))⟩
  have HBB4 : Hid (∀ a, lo = some a → V3.heap.size ≤ a.block ∧ a.block < pg) := fun a ha => by have := hin a ha; omega
  clear hha hwr hin hb hV hGA c0 c1 c2 c3 c4
  go_upto_region 9 with fail
  rw [HV.out]
  clear HV hpn
  obtain ⟨c0, c1, c2, c3, c4⟩ := five_cells (F1.out V4 (BV4.out V4 (Below.refl _ _)).1).1
  go_wp2_with fail
  refine (CG.out V4 (F1.out V4 (BV4.out V4 (Below.refl _ _)).1).2.2.1).mono ?_
  rintro e b5 ⟨N', L', ko, kc, g5, hGA, rfl, hha, hwr, hin, hb⟩
  obtain ⟨hx1, hx2⟩ := hGA.one HGA.out
  subst N'
  subst L'
  obtain ⟨pk, hpn⟩ : ∃ p, b5.heap.size = p := ⟨_, rfl⟩
  obtain ⟨V5, hV⟩ : ∃ V, b5.alloc (.cells #[.int .i64 N, .slice ko L.length kc] 35) = V := ⟨_, rfl⟩
  have HV : Hid (b5.alloc (.cells #[.int .i64 N, .slice ko L.length kc] 35) = V5) := hV
  have HN5 : Hid (V4.heap.size ≤ pk ∧ V5.heap.size = pk + 1) := ⟨by have := hb.size; omega, by rw [← hV]; simp [hpn]⟩
  have BV5 : Hid (∀ wx, Below V5.heap.size V5 wx → Below V1.heap.size V1 wx ∧ Below V4.heap.size V4 wx) := fun wx hx => by
    have g2 : Below b5.heap.size b5 V5 := by rw [← hV]; exact (Below.refl _ _).alloc (Nat.le_refl _) _
    exact ⟨(BV4.out _ (btrH' hb (btrH' g2 hx))).1, btrH' hb (btrH' g2 hx)⟩
  have FF5 : Hid (∀ wx, Below V5.heap.size V5 wx → wx.heap[pk]? = some (.cells #[.int .i64 N, .slice ko L.length kc] 35) ∧ HasArcs wx (.slice ko L.length kc) L ∧ Wr wx ko (L.length * 3)) := fun wx hx => by
    have g1 : V5.heap[pk]? = some (.cells #[.int .i64 N, .slice ko L.length kc] 35) := by rw [← hV, ← hpn]; exact heap_newW _ _
    have g2 : Below b5.heap.size b5 V5 := by rw [← hV]; exact (Below.refl _ _).alloc (Nat.le_refl _) _
    exact ⟨(hx.block _ (some_lt g1)).trans g1, hha.keep (btrH' g2 hx), hwr.shp (Shp.below (btrH' g2 hx))⟩
  have HBB5 : Hid (∀ a, ko = some a → V4.heap.size ≤ a.block ∧ a.block < pk) := fun a ha => by have := hin a ha; omega
  clear hha hwr hin hb hV hGA c0 c1 c2 c3 c4
  go_upto_region 10 with fail
  rw [HV.out]
  clear HV hpn
  obtain ⟨c0, c1, c2, c3, c4⟩ := five_cells (F1.out V5 (BV5.out V5 (Below.refl _ _)).1).1
  go_wp2_with fail
  refine (CR.out V5 (F1.out V5 (BV5.out V5 (Below.refl _ _)).1).2.2.1).mono ?_
  rintro e V6 ⟨io, ic, R, g6, hKA, rfl, hhi, hwr, hin, hb⟩
  have HKA : Hid (KAns h R) := hKA
  have BV6 : Hid (∀ wx, Below V6.heap.size V6 wx → Below V1.heap.size V1 wx ∧ Below V5.heap.size V5 wx) := fun wx hx => ⟨(BV5.out _ (btrH' hb hx)).1, btrH' hb hx⟩
  have FF6 : Hid (∀ wx, Below V6.heap.size V6 wx → HasInts wx (.slice io R.length ic) R ∧ Wr wx io R.length) := fun wx hx => ⟨hhi.keep hx, hwr.shp (Shp.below hx)⟩
  have HBB6 : Hid (∀ a, io = some a → V5.heap.size ≤ a.block ∧ a.block < V6.heap.size) := fun a ha => hin a ha
  have HN6R : Hid (V5.heap.size ≤ V6.heap.size) := hb.size
  clear hhi hwr hin hb hKA c0 c1 c2 c3 c4
  obtain ⟨c0, c1, c2, c3, c4⟩ := five_cells (F1.out V6 (BV6.out V6 (Below.refl _ _)).1).1
  go_wp2_with fail
  refine (CR.out V6 (F1.out V6 (BV6.out V6 (Below.refl _ _)).1).2.2.1).mono ?_
  rintro e V7 ⟨jo, jc, R', g7, hKA, rfl, hhi, hwr, hin, hb⟩
  have hx1 := hKA.oneM HKA.out
  subst R'
  have BV7 : Hid (∀ wx, Below V7.heap.size V7 wx → Below V1.heap.size V1 wx ∧ Below V6.heap.size V6 wx) := fun wx hx => ⟨(BV6.out _ (btrH' hb hx)).1, btrH' hb hx⟩
  have FF7 : Hid (∀ wx, Below V7.heap.size V7 wx → HasInts wx (.slice jo R.length jc) R ∧ Wr wx jo R.length) := fun wx hx => ⟨hhi.keep hx, hwr.shp (Shp.below hx)⟩
  have HBB7 : Hid (∀ a, jo = some a → V6.heap.size ≤ a.block ∧ a.block < V7.heap.size) := fun a ha => hin a ha
  have HN7R : Hid (V6.heap.size ≤ V7.heap.size) := hb.size
  clear hhi hwr hin hb hKA c0 c1 c2 c3 c4
  obtain ⟨c0, c1, c2, c3, c4⟩ := five_cells (F1.out V7 (BV7.out V7 (Below.refl _ _)).1).1
  go_wp2_with fail
  refine (CS.out V7 (F1.out V7 (BV7.out V7 (Below.refl _ _)).1).2.2.1).mono ?_
  rintro e V8 ⟨rfl, hb⟩
  have BV8 : Hid (∀ wx, Below V8.heap.size V8 wx → Below V1.heap.size V1 wx ∧ Below V7.heap.size V7 wx) := fun wx hx => ⟨(BV7.out _ (btrH' hb hx)).1, btrH' hb hx⟩
  have HN8 : Hid (V7.heap.size ≤ V8.heap.size) := hb.size
  clear hb c0 c1 c2 c3 c4
  obtain ⟨c0, c1, c2, c3, c4⟩ := five_cells (F1.out V8 (BV8.out V8 (Below.refl _ _)).1).1
  obtain ⟨e0, e1, e2, e3, e4⟩ := five_cells (HQ.out V8 (F1.out V8 (BV8.out V8 (Below.refl _ _)).1).2.2.2).1
  go_wp2_with fail
  refine (CH.out V8 (F1.out V8 (BV8.out V8 (Below.refl _ _)).1).2.2.1 (HQ.out V8 (F1.out V8 (BV8.out V8 (Below.refl _ _)).1).2.2.2).2.1).mono ?_
  rintro e V9 ⟨rfl, hb⟩
  have BV9 : Hid (∀ wx, Below V9.heap.size V9 wx → Below V1.heap.size V1 wx ∧ Below V7.heap.size V7 wx) := fun wx hx => ⟨(BV8.out _ (btrH' hb hx)).1, (BV8.out _ (btrH' hb hx)).2⟩
  have HN9 : Hid (V8.heap.size ≤ V9.heap.size) := hb.size
  clear hb c0 c1 c2 c3 c4 e0 e1 e2 e3 e4
  -- what is there at V9
  have HU : Hid (∀ wx, Below V9.heap.size V9 wx → Below V1.heap.size V1 wx ∧ Below V2.heap.size V2 wx ∧ Below V3.heap.size V3 wx ∧ Below V4.heap.size V4 wx ∧ Below V5.heap.size V5 wx ∧ Below V6.heap.size V6 wx ∧ Below V7.heap.size V7 wx) := fun wx hx => by
    obtain ⟨a1, a7⟩ := BV9.out wx hx
    have a6 := (BV7.out wx a7).2
    have a5 := (BV6.out wx a6).2
    have a4 := (BV5.out wx a5).2
    have a3 := (BV4.out wx a4).2
    have a2 := (BV3.out wx a3).2
    exact ⟨a1, a2, a3, a4, a5, a6, a7⟩
  have HNN : Hid (z + 1 ≤ w2.heap.size ∧ w2.heap.size ≤ px ∧ px < V1.heap.size ∧ V1.heap.size ≤ pt ∧ pt < V2.heap.size ∧ V2.heap.size ≤ pu ∧ pu < V3.heap.size ∧ V3.heap.size ≤ pg ∧ pg < V4.heap.size ∧ V4.heap.size ≤ pk ∧ pk < V5.heap.size ∧ V5.heap.size ≤ V6.heap.size ∧ V6.heap.size ≤ V7.heap.size ∧ V7.heap.size ≤ V9.heap.size) := by
    have q1 := HN1.out
    have q2 := HN2.out
    have q3 := HN3.out
    have q4 := HN4.out
    have q5 := HN5.out
    have q6 := HN6R.out
    have q7 := HN7R.out
    have q8 := HN8.out
    have q9 := HN9.out
    show _ ∧ _
    omega
  obtain ⟨PP, hPP⟩ : ∃ PP : Nat → Prop, PP = fun k => (w2.heap.size ≤ k ∧ k < px) ∨ (V1.heap.size ≤ k ∧ k < pt) ∨ (V3.heap.size ≤ k ∧ k < pg) ∨ (V5.heap.size ≤ k ∧ k < V6.heap.size) := ⟨_, rfl⟩
  have HPX : Hid (∀ k, Blk ⟨x0, x1, x2, x3, x4, kx0, kx1, kx2, kx3, kx4⟩ h k → PP k) := fun k hk => by rw [hPP]; exact .inl (HXB.out k hk)
  have HPT : Hid (∀ k, Blk ⟨t0, t1, t2, t3, t4, kt0, kt1, kt2, kt3, kt4⟩ H k → PP k) := fun k hk => by rw [hPP]; exact .inr (.inl (HBB2.out k hk))
  have HPG : Hid (∀ a, lo = some a → PP a.block) := fun a ha => by rw [hPP]; exact .inr (.inr (.inl (HBB4.out a ha)))
  have HPI : Hid (∀ a, io = some a → PP a.block) := fun a ha => by rw [hPP]; exact .inr (.inr (.inr (HBB6.out a ha)))
  have HSF : Hid ((∀ k, k ≤ z → ¬ PP k) ∧ ¬ PP px ∧ ¬ PP pt ∧ ¬ PP pu ∧ ¬ PP pg ∧ ¬ PP pk ∧ (∀ k, Blk ⟨yu0, yu1, yu2, yu3, yu4, ku0, ku1, ku2, ku3, ku4⟩ H k → ¬ PP k) ∧ (∀ a, ko = some a → ¬ PP a.block) ∧ (∀ a, jo = some a → ¬ PP a.block) ∧ ∀ k, V9.heap.size ≤ k → ¬ PP k) := by
    have q := HNN.out
    rw [hPP]
    refine ⟨fun k hk => ?_, ?_, ?_, ?_, ?_, ?_, fun k hk => ?_, fun a ha => ?_, fun a ha => ?_, fun k hk => ?_⟩
    · omega
    · omega
    · omega
    · omega
    · omega
    · omega
    · have := HBB3.out k hk; omega
    · have := HBB5.out a ha; omega
    · have := HBB7.out a ha; omega
    · omega
  clear hPP
  obtain ⟨r0, hr0⟩ : ∃ r, V9.heap.size = r := ⟨_, rfl⟩
  obtain ⟨Z, hZ⟩ : ∃ Z, V9.alloc (.cells #[.slice t0 H.node.length kt0, .slice t1 H.upF.length kt1, .slice t3 H.dnF.length kt3, .slice x0 h.node.length kx0, .slice x1 h.upF.length kx1, .slice x3 h.dnF.length kx3] 22) = Z := ⟨_, rfl⟩
  have HZ : Hid (V9.alloc (.cells #[.slice t0 H.node.length kt0, .slice t1 H.upF.length kt1, .slice t3 H.dnF.length kt3, .slice x0 h.node.length kx0, .slice x1 h.upF.length kx1, .slice x3 h.dnF.length kx3] 22) = Z) := hZ
  have hbs := build_six t0 t1 t3 x0 x1 x3 H.node.length H.upF.length H.dnF.length h.node.length h.upF.length h.dnF.length kt0 kt1 kt3 kx0 kx1 kx3
  have HZ0 : Hid (Z.heap[r0]? = some (.cells #[.slice t0 H.node.length kt0, .slice t1 H.upF.length kt1, .slice t3 H.dnF.length kt3, .slice x0 h.node.length kx0, .slice x1 h.upF.length kx1, .slice x3 h.dnF.length kx3] 22) ∧ Below V9.heap.size V9 Z ∧ r0 < Z.heap.size ∧ V9.heap.size = r0) := by
    have g1 : Z.heap[r0]? = some (.cells #[.slice t0 H.node.length kt0, .slice t1 H.upF.length kt1, .slice t3 H.dnF.length kt3, .slice x0 h.node.length kx0, .slice x1 h.upF.length kx1, .slice x3 h.dnF.length kx3] 22) := by rw [← hZ, ← hr0]; exact heap_newW _ _
    exact ⟨g1, by rw [← hZ]; exact (Below.refl _ _).alloc (Nat.le_refl _) _, some_lt g1, hr0⟩
  -- what may be asked of every world behind Z
  have HRT : Hid (Reach H) := HTA.out.reachM HRH.out
  have HF : Hid (∀ wx, FR PP Z wx → (wx.heap[px]? = some (.cells #[.slice x0 h.node.length kx0, .slice x1 h.upF.length kx1, .slice x2 h.up.length kx2, .slice x3 h.dnF.length kx3, .slice x4 h.dn.length kx4] 25) ∧ wx.heap[pt]? = some (.cells #[.slice t0 H.node.length kt0, .slice t1 H.upF.length kt1, .slice t2 H.up.length kt2, .slice t3 H.dnF.length kt3, .slice t4 H.dn.length kt4] 25) ∧ wx.heap[pu]? = some (.cells #[.slice yu0 H.node.length ku0, .slice yu1 H.upF.length ku1, .slice yu2 H.up.length ku2, .slice yu3 H.dnF.length ku3, .slice yu4 H.dn.length ku4] 25) ∧ wx.heap[pg]? = some (.cells #[.int .i64 N, .slice lo L.length lc] 35) ∧ wx.heap[pk]? = some (.cells #[.int .i64 N, .slice ko L.length kc] 35) ∧ wx.heap[z]? = some (.cells #[.slice no h.node.length nc, .slice uo h.upF.length uc, .slice ul h.up.length ulc, .slice wo h.dnF.length wc, .slice dl h.dn.length dlc] 25)) ∧ HasH wx ⟨yu0, yu1, yu2, yu3, yu4, ku0, ku1, ku2, ku3, ku4⟩ H ∧ HasArcs wx (.slice ko L.length kc) L ∧ HasInts wx (.slice jo R.length jc) R ∧ Below w.heap.size w wx ∧ HasH wx ⟨no, uo, ul, wo, dl, nc, uc, ulc, wc, dlc⟩ h) := fun wx hx => by
    obtain ⟨a1, a2, a3, a4, a5, a6, a7⟩ := HU.out Z HZ0.out.2.1
    obtain ⟨s1, s2, s3, s4, s5, s6, s7, s8, s9, s10⟩ := HSF.out
    have f1 := F1.out Z a1
    have f2 := FF2.out Z a2
    have f3 := FF3.out Z a3
    have f4 := FF4.out Z a4
    have f5 := FF5.out Z a5
    have f7 := FF7.out Z a7
    have f0 := HQ.out Z f1.2.2.2
    have sf : ∀ {k : Nat} {o : Obj}, Z.heap[k]? = some o → ¬ PP k → wx.heap[k]? = some o := fun hk hn => (hx.safe _ (some_lt hk) hn).trans hk
    have hbw : Below w.heap.size w wx := by
      have hz := HN0.out.1
      exact ⟨hx.os.trans f0.2.2.os, hx.tape.trans f0.2.2.tape, hx.output.trans f0.2.2.output, Nat.le_trans f0.2.2.size hx.size, fun k hk => (hx.safe k (Nat.lt_of_lt_of_le hk f0.2.2.size) (s1 k (by omega))).trans (f0.2.2.block k hk)⟩
    refine ⟨⟨sf f1.1 s2, sf f2.1 s3, sf f3.1 s4, sf f4.1 s5, sf f5.1 s6, sf f0.1 (s1 z (Nat.le_refl _))⟩, ?_, ?_, ?_, hbw, HKW.out wx hbw⟩
    · exact (f3.2.1.safe fun k hk => hx.safe k (f3.2.1.blk hk).2 (s7 k hk)).has_of f3.2.2
    · exact arcs_far f5.2.1 hx.size (fun a ha => hx.safe _ (by have := HBB5.out a ha; have := HNN.out; have := HZ0.out.2.2; omega) (s8 a ha))
    · exact ints_safe f7.1 hx.size (fun a ha => hx.safe _ (by have := HBB7.out a ha; have := HNN.out; have := HZ0.out.2.2; omega) (s9 a ha))
  have HLS : Hid (∀ wx, FR PP Z wx → (Loose wx 43 1 (.slice t0 H.node.length kt0) H.node.length ∧ Loose wx 43 1 (.slice t1 H.upF.length kt1) H.upF.length ∧ Loose wx 43 1 (.slice t3 H.dnF.length kt3) H.dnF.length ∧ Loose wx 43 1 (.slice x0 h.node.length kx0) h.node.length ∧ Loose wx 43 1 (.slice x1 h.upF.length kx1) h.upF.length ∧ Loose wx 43 1 (.slice x3 h.dnF.length kx3) h.dnF.length) ∧ (Loose wx 47 4 (.slice t2 H.up.length kt2) H.up.length ∧ Loose wx 47 4 (.slice t4 H.dn.length kt4) H.dn.length ∧ Loose wx 47 4 (.slice x2 h.up.length kx2) h.up.length ∧ Loose wx 47 4 (.slice x4 h.dn.length kx4) h.dn.length) ∧ Wr wx lo (L.length * 3) ∧ Wr wx io R.length) := fun wx hx => by
    obtain ⟨a1, a2, a3, a4, a5, a6, a7⟩ := HU.out Z HZ0.out.2.1
    have f1 := (F1.out Z a1).2.1
    have f2 := (FF2.out Z a2).2.1
    have f4 := FF4.out Z a4
    have f6 := FF6.out Z a6
    exact ⟨⟨(loose_of f2.node).shp hx.shp, (loose_of f2.upF).shp hx.shp, (loose_of f2.dnF).shp hx.shp, (loose_of f1.node).shp hx.shp, (loose_of f1.upF).shp hx.shp, (loose_of f1.dnF).shp hx.shp⟩, ⟨(loose_of f2.up).shp hx.shp, (loose_of f2.dn).shp hx.shp, (loose_of f1.up).shp hx.shp, (loose_of f1.dn).shp hx.shp⟩, f4.2.2.shp hx.shp, f6.2.shp hx.shp⟩
  have HLO : Hid (∀ j, j < L.length → ∃ b o, lo = some ⟨b, o, none⟩) := fun j hj => by
    have g := (FF4.out V4 (Below.refl _ _)).2.1
    obtain ⟨ao, cap, e, hc⟩ := g
    injection e with e1 _ _
    obtain ⟨b, o, e2, _⟩ := hc j L[j] (List.getElem?_eq_getElem hj)
    exact ⟨b, o, e1.trans e2⟩
  have HIO : Hid (∀ j, j < R.length → ∃ b o, io = some ⟨b, o, none⟩) := fun j hj => by
    have g := (FF6.out V6 (Below.refl _ _)).1
    obtain ⟨ao, cap, e, hc⟩ := g
    injection e with e1 _ _
    obtain ⟨b, o, e2, _⟩ := hc j R[j] (List.getElem?_eq_getElem hj)
    exact ⟨b, o, e1.trans e2⟩
  have HROW : Hid (∀ wx i, FR PP Z wx → i < 6 → ∃ so n sc, wx.cell? ⟨r0, i, none⟩ = some (.slice so n sc) ∧ Loose wx 43 1 (.slice so n sc) n ∧ (∀ b, (Value.slice so n sc).ownBlock = some b → PP b) ∧ n * 4 ≤ 140737488351232) := fun wx i hx hi => by
    have hr := (hx.safe r0 HZ0.out.2.2.1 (HSF.out.2.2.2.2.2.2.2.2.2 r0 (by have := HZ0.out.2.2.2; omega))).trans HZ0.out.1
    obtain ⟨⟨l0, l1, l2, l3, l4, l5⟩, _⟩ := HLS.out wx hx
    have rH := HRT.out
    have rh := HRH.out
    rcases i with _ | _ | _ | _ | _ | _ | i
    · exact ⟨_, _, _, by simp [World.cell?, hr], l0, fun b e => HPT.out b (.inl e), rH.node⟩
    · exact ⟨_, _, _, by simp [World.cell?, hr], l1, fun b e => HPT.out b (.inr (.inl e)), rH.upF⟩
    · exact ⟨_, _, _, by simp [World.cell?, hr], l2, fun b e => HPT.out b (.inr (.inr (.inr (.inl e)))), rH.dnF⟩
    · exact ⟨_, _, _, by simp [World.cell?, hr], l3, fun b e => HPX.out b (.inl e), rh.node⟩
    · exact ⟨_, _, _, by simp [World.cell?, hr], l4, fun b e => HPX.out b (.inr (.inl e)), rh.upF⟩
    · exact ⟨_, _, _, by simp [World.cell?, hr], l5, fun b e => HPX.out b (.inr (.inr (.inr (.inl e)))), rh.dnF⟩
    · omega
  have HFZ : Hid (FR PP Z Z) := FR.refl _ _
  obtain ⟨i0, hi9, hzz⟩ := Option.map_eq_some_iff.1 infoWs
  simp only [Prod.mk.injEq] at hzz
  have HI : Hid (Try.prog.info? 43 = some i0 ∧ i0.zero = some (.int .u32 0) ∧ i0.size = 1 ∧ i0.bytes = 4) := ⟨hi9, hzz⟩
  obtain ⟨c0, c1, c2, c3, c4⟩ := five_cells (F1.out V9 (HU.out V9 (Below.refl _ _)).1).1
  obtain ⟨d0, d1, d2, d3, d4⟩ := five_cells (FF2.out V9 (HU.out V9 (Below.refl _ _)).2.1).1
  clear hZ hi9 hzz
  go_wp2_with fail
  rw [HZ.out]
  clear HZ hr0 hbs c0 c1 c2 c3 c4 d0 d1 d2 d3 d4
  go_loopw [88] (fun iv wr => ∃ i : Nat, i ≤ 6 ∧ iv = .int .i64 i ∧ Hid (FR PP Z wr)) (fun iv _ => 6 - (intOf iv).toNat)
  case atStart => exact ⟨0, Nat.zero_le _, rfl, HFZ.out⟩
  case round =>
    obtain ⟨i, hi, rfl, HG⟩ := hrel
    rcases Nat.lt_or_eq_of_le hi with h1 | h1
    · obtain ⟨so, n, sc, ck, hlo, hpp, hnb⟩ := HROW.out wr i HG.out h1
      have i1 : (0 : Int) ≤ (i : Int) := by omega
      have i2 : (i : Int) < 6 := by omega
      have HLL : Hid (Loose wr 43 1 (.slice so n sc) n ∧ ∀ b, (Value.slice so n sc).ownBlock = some b → PP b) := ⟨hlo, hpp⟩
      have HGW : Hid (FR PP wr wr) := FR.refl _ _
      clear hlo hpp
      go_wp2_with fail
      generalize hW : wr = W1 at *
      clear hW
      go_loopw [94] (fun jv wq => ∃ j : Nat, j ≤ n ∧ jv = .int .i64 j ∧ Hid (FR PP Z wq) ∧ Hid (Loose wq 43 1 (.slice so n sc) n)) (fun jv _ => n - (intOf jv).toNat)
      case atStart => exact ⟨0, Nat.zero_le _, rfl, HG.out, HLL.out.1⟩
      case round =>
        obtain ⟨j, hj, rfl, HQ1, HQ2⟩ := hrel
        rcases Nat.lt_or_eq_of_le hj with h2 | h2
        · obtain ⟨b, hso, hw⟩ := HQ2.out.at (by omega)
          subst hso
          obtain ⟨⟨v0, k0⟩, f0⟩ := hw j (by omega)
          have j1 : (0 : Int) ≤ (j : Int) := by omega
          have j2 : (j : Int) < (n : Int) := by omega
          have HST : Hid (FR PP Z (wr.setCell ⟨b, j, none⟩ (.int .u32 7777)) ∧ Loose (wr.setCell ⟨b, j, none⟩ (.int .u32 7777)) 43 1 (.slice (some ⟨b, 0, none⟩) n sc) n) := ⟨HQ1.out.store (HLL.out.2 b rfl) _ _, HQ2.out.shp (Shp.store _ _ _ _)⟩
          clear hw
          go_wp2
          go_roundw
          case rel => exact ⟨j + 1, by omega, by go_num, HST.out.1, HST.out.2⟩
          case measure => simp [intOf]; omega
        · subst h2
          have hw2 : IntKind.i64.wrap ((j : Int) + 2) = (j : Int) + 2 := by rw [IntKind.wrap_i64]; omega
          have q6 : decide ((j : Int) < (j : Int)) = false := by simp
          go_wp2_with (at_builtin; refine wpList_append_shp _ rfl _ _ 22 rfl 43 i0 (.int .u32 0) 1 4 Try.underlying22 HI.out.1 HI.out.2.1 HI.out.2.2.1 HI.out.2.2.2 rfl (by decide) _ j rfl (HQ2.out.shp (Shp.below ((Below.refl _ _).alloc (Nat.le_refl _) _))) ⟨wr.heap.size, 0, none⟩ 2 2 [.int .u32 1, .int .u32 2] rfl rfl (new_cells wr [.int .u32 1, .int .u32 2] 43) (by simp [Value.oneCell']) (by unfold maxLen; omega) (by omega) ?_; rintro v5 w5 ⟨po, pc, rfl⟩ hgr hsh; have H5 : Hid (FR PP Z w5) := FR.grown (HQ1.out.below ((Below.refl _ _).alloc (Nat.le_refl _) _)) hgr (fun k e => HLL.out.2 k e) hsh; clear hgr hsh)
          exact ⟨⟨i + 1, by omega, by rw [show (i : Int) + 1 = ((i + 1 : Nat) : Int) by omega], H5.out⟩, by simp only [intOf]; omega⟩
    · subst h1
      obtain ⟨⟨m1, m2, m3, m4, m5, m6⟩, _⟩ := HF.out wr HG.out
      obtain ⟨c0, c1, c2, c3, c4⟩ := five_cells m1
      obtain ⟨d0, d1, d2, d3, d4⟩ := five_cells m2
      obtain ⟨r1, hr1⟩ : ∃ r, wr.heap.size = r := ⟨_, rfl⟩
      obtain ⟨Z2, hZ2⟩ : ∃ Z, wr.alloc (.cells #[.slice t2 H.up.length kt2, .slice t4 H.dn.length kt4, .slice x2 h.up.length kx2, .slice x4 h.dn.length kx4] 23) = Z := ⟨_, rfl⟩
      have HZ2 : Hid (wr.alloc (.cells #[.slice t2 H.up.length kt2, .slice t4 H.dn.length kt4, .slice x2 h.up.length kx2, .slice x4 h.dn.length kx4] 23) = Z2) := hZ2
      have hbs := build_fourL t2 t4 x2 x4 H.up.length H.dn.length h.up.length h.dn.length kt2 kt4 kx2 kx4
      have HZ3 : Hid (Z2.heap[r1]? = some (.cells #[.slice t2 H.up.length kt2, .slice t4 H.dn.length kt4, .slice x2 h.up.length kx2, .slice x4 h.dn.length kx4] 23) ∧ FR PP Z Z2 ∧ r1 < Z2.heap.size ∧ Z.heap.size ≤ r1) := by
        have g1 : Z2.heap[r1]? = some (.cells #[.slice t2 H.up.length kt2, .slice t4 H.dn.length kt4, .slice x2 h.up.length kx2, .slice x4 h.dn.length kx4] 23) := by rw [← hZ2, ← hr1]; exact heap_newW _ _
        exact ⟨g1, HG.out.below (by rw [← hZ2]; exact (Below.refl _ _).alloc (Nat.le_refl _) _), some_lt g1, by have := HG.out.size; omega⟩
      have HROW2 : Hid (∀ wx i, FR PP Z2 wx → i < 4 → ∃ so n sc, wx.cell? ⟨r1, i, none⟩ = some (.slice so n sc) ∧ Loose wx 47 4 (.slice so n sc) n ∧ (∀ b, (Value.slice so n sc).ownBlock = some b → PP b) ∧ n * 24 ≤ 140737488351232) := fun wx i hx hi => by
        have hr := (hx.safe r1 HZ3.out.2.2.1 (HSF.out.2.2.2.2.2.2.2.2.2 r1 (by have := HZ0.out.2.2; have := HZ3.out.2.2.2; omega))).trans HZ3.out.1
        obtain ⟨_, ⟨l0, l1, l2, l3⟩, _⟩ := HLS.out wx (HZ3.out.2.1.trans hx)
        have rH := HRT.out
        have rh := HRH.out
        rcases i with _ | _ | _ | _ | i
        · exact ⟨_, _, _, by simp [World.cell?, hr], l0, fun b e => HPT.out b (.inr (.inr (.inl e))), rH.up⟩
        · exact ⟨_, _, _, by simp [World.cell?, hr], l1, fun b e => HPT.out b (.inr (.inr (.inr (.inr e)))), rH.dn⟩
        · exact ⟨_, _, _, by simp [World.cell?, hr], l2, fun b e => HPX.out b (.inr (.inr (.inl e))), rh.up⟩
        · exact ⟨_, _, _, by simp [World.cell?, hr], l3, fun b e => HPX.out b (.inr (.inr (.inr (.inr e)))), rh.dn⟩
        · omega
      have HFZ2 : Hid (FR PP Z2 Z2) := FR.refl _ _
      have hbl := build_l9
      clear hZ2 m1 m2 m3 m4 m5 m6 HG
      go_wp2_with fail
      rw [HZ2.out]
      clear HZ2 hr1 hbs c0 c1 c2 c3 c4 d0 d1 d2 d3 d4
      generalize hW : wr = W5 at *
      clear hW
      go_loopw [121] (fun iv wr => ∃ i : Nat, i ≤ 4 ∧ iv = .int .i64 i ∧ Hid (FR PP Z2 wr)) (fun iv _ => 4 - (intOf iv).toNat)
      case atStart => exact ⟨0, Nat.zero_le _, rfl, HFZ2.out⟩
      case round =>
        obtain ⟨i, hi, rfl, HG2⟩ := hrel
        rcases Nat.lt_or_eq_of_le hi with h1 | h1
        · obtain ⟨so, n, sc, ck, hlo, hpp, hnb⟩ := HROW2.out wr i HG2.out h1
          have i1 : (0 : Int) ≤ (i : Int) := by omega
          have i2 : (i : Int) < 4 := by omega
          have HLL : Hid (Loose wr 47 4 (.slice so n sc) n ∧ ∀ b, (Value.slice so n sc).ownBlock = some b → PP b) := ⟨hlo, hpp⟩
          clear hlo hpp
          go_wp2_with fail
          generalize hW : wr = W1 at *
          clear hW
          go_loopw [127] (fun jv wq => ∃ j : Nat, j ≤ n ∧ jv = .int .i64 j ∧ Hid (FR PP Z2 wq) ∧ Hid (Loose wq 47 4 (.slice so n sc) n)) (fun jv _ => n - (intOf jv).toNat)
          case atStart => exact ⟨0, Nat.zero_le _, rfl, HG2.out, HLL.out.1⟩
          case round =>
            obtain ⟨j, hj, rfl, HQ1, HQ2⟩ := hrel
            rcases Nat.lt_or_eq_of_le hj with h2 | h2
            · obtain ⟨b, hso, hw⟩ := HQ2.out.at (by omega)
              subst hso
              obtain ⟨⟨v0, k0⟩, f0⟩ := hw (j * 4) (by omega)
              obtain ⟨⟨v1, k1⟩, f1⟩ := hw (j * 4 + 1) (by omega)
              obtain ⟨⟨v2, k2⟩, f2⟩ := hw (j * 4 + 2) (by omega)
              obtain ⟨⟨v3, k3⟩, f3⟩ := hw (j * 4 + 3) (by omega)
              have j1 : (0 : Int) ≤ (j : Int) := by omega
              have j2 : (j : Int) < (n : Int) := by omega
              have HST : Hid (FR PP Z2 ((((wr.setCell ⟨b, j * 4, none⟩ (.int .u32 9)).setCell ⟨b, j * 4 + 1, none⟩ (.int .u64 0)).setCell ⟨b, j * 4 + 2, none⟩ (.int .u32 0)).setCell ⟨b, j * 4 + 3, none⟩ (.int .u32 0)) ∧ Loose ((((wr.setCell ⟨b, j * 4, none⟩ (.int .u32 9)).setCell ⟨b, j * 4 + 1, none⟩ (.int .u64 0)).setCell ⟨b, j * 4 + 2, none⟩ (.int .u32 0)).setCell ⟨b, j * 4 + 3, none⟩ (.int .u32 0)) 47 4 (.slice (some ⟨b, 0, none⟩) n sc) n) := ⟨(((HQ1.out.store (HLL.out.2 b rfl) _ _).store (HLL.out.2 b rfl) _ _).store (HLL.out.2 b rfl) _ _).store (HLL.out.2 b rfl) _ _, (((HQ2.out.shp (Shp.store _ _ _ _)).shp (Shp.store _ _ _ _)).shp (Shp.store _ _ _ _)).shp (Shp.store _ _ _ _)⟩
              clear hw
              go_wp2
              go_roundw
              case rel => exact ⟨j + 1, by omega, by go_num, HST.out.1, HST.out.2⟩
              case measure => simp [intOf]; omega
            · subst h2
              have q6 : decide ((j : Int) < (j : Int)) = false := by simp
              go_wp2_with fail
              exact ⟨⟨i + 1, by omega, by rw [show (i : Int) + 1 = ((i + 1 : Nat) : Int) by omega], HQ1.out⟩, by simp only [intOf]; omega⟩
        · subst h1
          have HQ5a : Hid (FR PP Z wr) := HZ3.out.2.1.trans HG2.out
          obtain ⟨g0, g1, _, _⟩ := cell_two (HF.out wr HQ5a.out).1.2.2.2.1
          have hba := build_a9
          clear HG2
          go_wp2_with fail
          clear g0 g1
          generalize hW : wr = W6 at *
          clear hW
          go_loopw [139] (fun jv wr => ∃ j : Nat, j ≤ L.length ∧ jv = .int .i64 j ∧ Hid (FR PP Z wr)) (fun jv _ => L.length - (intOf jv).toNat)
          case atStart => exact ⟨0, Nat.zero_le _, rfl, HQ5a.out⟩
          case round =>
            obtain ⟨j, hj, rfl, HQ5⟩ := hrel
            rcases Nat.lt_or_eq_of_le hj with h2 | h2
            · obtain ⟨b, o, hlo⟩ := HLO.out j h2
              subst hlo
              obtain ⟨g0, g1, _, _⟩ := cell_two (HF.out wr HQ5.out).1.2.2.2.1
              have hw := (HLS.out wr HQ5.out).2.2.1 b o rfl
              obtain ⟨⟨v0, k0⟩, f0⟩ := hw (j * 3) (by omega)
              obtain ⟨⟨v1, k1⟩, f1⟩ := hw (j * 3 + 1) (by omega)
              obtain ⟨⟨v2, k2⟩, f2⟩ := hw (j * 3 + 2) (by omega)
              rw [← Nat.add_assoc] at k1 f1 k2 f2
              have j1 : (0 : Int) ≤ (j : Int) := by omega
              have j2 : (j : Int) < (L.length : Int) := by omega
              have j3 : j < 1048576 := by have := HGA.out.fewM; omega
              have hpb : pg ≠ b := fun e => HSF.out.2.2.2.2.1 (by rw [e]; exact HPG.out _ rfl)
              have hpb' : b ≠ pg := hpb.symm
              have HST : Hid (FR PP Z (((wr.setCell ⟨b, o + j * 3, none⟩ (.int .i64 (-1))).setCell ⟨b, o + j * 3 + 1, none⟩ (.int .i64 0)).setCell ⟨b, o + j * 3 + 2, none⟩ (.int .i64 0))) := ((HQ5.out.store (HPG.out _ rfl) _ _).store (HPG.out _ rfl) _ _).store (HPG.out _ rfl) _ _
              clear hw
              go_wp2
              go_roundw
              case rel => exact ⟨j + 1, by omega, by go_num, HST.out⟩
              case measure => simp [intOf]; omega
            · subst h2
              have q6 : decide ((L.length : Int) < (L.length : Int)) = false := by simp
              have HQ6a : Hid (FR PP Z wr) := HQ5.out
              clear HQ5
              go_wp2_with fail
              generalize hW : wr = W7 at *
              clear hW
              go_loopw [150] (fun jv wr => ∃ j : Nat, j ≤ R.length ∧ jv = .int .i64 j ∧ Hid (FR PP Z wr)) (fun jv _ => R.length - (intOf jv).toNat)
              case atStart => exact ⟨0, Nat.zero_le _, rfl, HQ6a.out⟩
              case round =>
                obtain ⟨j, hj, rfl, HQ6⟩ := hrel
                rcases Nat.lt_or_eq_of_le hj with h2 | h2
                · obtain ⟨b, o, hlo⟩ := HIO.out j h2
                  subst hlo
                  obtain ⟨⟨v0, k0⟩, f0⟩ := (HLS.out wr HQ6.out).2.2.2 b o rfl j h2
                  have j1 : (0 : Int) ≤ (j : Int) := by omega
                  have j2 : (j : Int) < (R.length : Int) := by omega
                  have j3 : j < 65536 := by have := HKA.out.fewM; omega
                  have HST : Hid (FR PP Z (wr.setCell ⟨b, o + j, none⟩ (.int .i64 (-1)))) := HQ6.out.store (HPI.out _ rfl) _ _
                  go_wp2
                  go_roundw
                  case rel => exact ⟨j + 1, by omega, by go_num, HST.out⟩
                  case measure => simp [intOf]; omega
                · subst h2
                  have q7 : decide ((R.length : Int) < (R.length : Int)) = false := by simp
                  have HFW : Hid (FR PP Z wr) := HQ6.out
                  obtain ⟨wf, hwf⟩ : ∃ wf, wr = wf := ⟨_, rfl⟩
                  have HFB : Hid (∀ wx, Below wf.heap.size wf wx → (wx.heap[pu]? = some (.cells #[.slice yu0 H.node.length ku0, .slice yu1 H.upF.length ku1, .slice yu2 H.up.length ku2, .slice yu3 H.dnF.length ku3, .slice yu4 H.dn.length ku4] 25) ∧ wx.heap[pk]? = some (.cells #[.int .i64 N, .slice ko L.length kc] 35) ∧ wx.heap[z]? = some (.cells #[.slice no h.node.length nc, .slice uo h.upF.length uc, .slice ul h.up.length ulc, .slice wo h.dnF.length wc, .slice dl h.dn.length dlc] 25)) ∧ HasH wx ⟨yu0, yu1, yu2, yu3, yu4, ku0, ku1, ku2, ku3, ku4⟩ H ∧ HasArcs wx (.slice ko L.length kc) L ∧ HasInts wx (.slice jo R.length jc) R ∧ Below w.heap.size w wx ∧ HasH wx ⟨no, uo, ul, wo, dl, nc, uc, ulc, wc, dlc⟩ h) := fun wx hx => by
                    rw [← hwf] at hx
                    obtain ⟨⟨_, _, g3, _, g5, g6⟩, g7⟩ := HF.out wx (HFW.out.below hx)
                    exact ⟨⟨g3, g5, g6⟩, g7⟩
                  rw [hwf]
                  clear HFW HQ6 hwf
                  have K0 : Hid (Below wf.heap.size wf wf) := Below.refl _ _
                  obtain ⟨c0, c1, c2, c3, c4⟩ := five_cells (HFB.out wf K0.out).1.2.2
                  go_wp2_with fail
                  refine (HDT.out wf (HFB.out wf K0.out).2.2.2.2.2).mono ?_
                  rintro e f1 ⟨dv, H', eo1, ec1, hTA, rfl, hhd, hp, hb⟩
                  have hHH := hTA.one HTA.out
                  subst H'
                  obtain ⟨q0, q1, q2, q3, q4, kq0, kq1, kq2, kq3, kq4⟩ := dv
                  have eD : hvl ⟨q0, q1, q2, q3, q4, kq0, kq1, kq2, kq3, kq4⟩ H = .agg #[.slice q0 H.node.length kq0, .slice q1 H.upF.length kq1, .slice q2 H.up.length kq2, .slice q3 H.dnF.length kq3, .slice q4 H.dn.length kq4] := rfl
                  rw [eD]
                  obtain ⟨pd, hpd⟩ : ∃ p, f1.heap.size = p := ⟨_, rfl⟩
                  obtain ⟨Y1, hY⟩ : ∃ Y, (f1.alloc (.cells #[.slice q0 H.node.length kq0, .slice q1 H.upF.length kq1, .slice q2 H.up.length kq2, .slice q3 H.dnF.length kq3, .slice q4 H.dn.length kq4] 25)).alloc (.cells #[.int .i64 (chk h).1, .slice eo1 (chk h).2.length ec1] 52) = Y := ⟨_, rfl⟩
                  have HY : Hid ((f1.alloc (.cells #[.slice q0 H.node.length kq0, .slice q1 H.upF.length kq1, .slice q2 H.up.length kq2, .slice q3 H.dnF.length kq3, .slice q4 H.dn.length kq4] 25)).alloc (.cells #[.int .i64 (chk h).1, .slice eo1 (chk h).2.length ec1] 52) = Y1) := hY
                  have HY1 : Hid (∀ wx, Below Y1.heap.size Y1 wx → wx.heap[pd]? = some (.cells #[.slice q0 H.node.length kq0, .slice q1 H.upF.length kq1, .slice q2 H.up.length kq2, .slice q3 H.dnF.length kq3, .slice q4 H.dn.length kq4] 25) ∧ HasH wx ⟨q0, q1, q2, q3, q4, kq0, kq1, kq2, kq3, kq4⟩ H ∧ Below wf.heap.size wf wx) := fun wx hx => by
                    have g1 : Y1.heap[pd]? = some (.cells #[.slice q0 H.node.length kq0, .slice q1 H.upF.length kq1, .slice q2 H.up.length kq2, .slice q3 H.dnF.length kq3, .slice q4 H.dn.length kq4] 25) := by rw [← hY, ← hpd]; exact (Below.heap_alloc _ _ _ (by simp)).trans (heap_newW _ _)
                    have g2 : Below f1.heap.size f1 Y1 := by rw [← hY]; exact ((Below.refl _ _).alloc (Nat.le_refl _) _).alloc (by simp) _
                    exact ⟨(hx.block _ (some_lt g1)).trans g1, hhd.keep (btrH' g2 hx), btrH' hb (btrH' g2 hx)⟩
                  clear hhd hp hb hY hTA c0 c1 c2 c3 c4 eD
                  go_upto_region 47 with fail
                  rw [HY.out]
                  clear HY hpd
                  obtain ⟨c0, c1, c2, c3, c4⟩ := five_cells (HFB.out Y1 (HY1.out Y1 (Below.refl _ _)).2.2).1.2.2
                  go_wp2_with fail
                  refine (HDG.out HGB.out Y1 (HFB.out Y1 (HY1.out Y1 (Below.refl _ _)).2.2).2.2.2.2.2).mono ?_
                  rintro e f2 ⟨N', L', eo, ec, eo2, ec2, hGA, rfl, hha, hp, hb⟩
                  obtain ⟨hx1, hx2⟩ := hGA.one HGA.out
                  subst N'
                  subst L'
                  obtain ⟨pe, hpe⟩ : ∃ p, f2.heap.size = p := ⟨_, rfl⟩
                  obtain ⟨Y2, hY⟩ : ∃ Y, (f2.alloc (.cells #[.int .i64 N, .slice eo L.length ec] 35)).alloc (.cells #[.int .i64 (chk h).1, .slice eo2 (chk h).2.length ec2] 52) = Y := ⟨_, rfl⟩
                  have HY : Hid ((f2.alloc (.cells #[.int .i64 N, .slice eo L.length ec] 35)).alloc (.cells #[.int .i64 (chk h).1, .slice eo2 (chk h).2.length ec2] 52) = Y2) := hY
                  have HY2 : Hid (∀ wx, Below Y2.heap.size Y2 wx → wx.heap[pe]? = some (.cells #[.int .i64 N, .slice eo L.length ec] 35) ∧ HasArcs wx (.slice eo L.length ec) L ∧ Below Y1.heap.size Y1 wx) := fun wx hx => by
                    have g1 : Y2.heap[pe]? = some (.cells #[.int .i64 N, .slice eo L.length ec] 35) := by rw [← hY, ← hpe]; exact (Below.heap_alloc _ _ _ (by simp)).trans (heap_newW _ _)
                    have g2 : Below f2.heap.size f2 Y2 := by rw [← hY]; exact ((Below.refl _ _).alloc (Nat.le_refl _) _).alloc (by simp) _
                    exact ⟨(hx.block _ (some_lt g1)).trans g1, hha.keep (btrH' g2 hx), btrH' hb (btrH' g2 hx)⟩
                  clear hha hp hb hY hGA c0 c1 c2 c3 c4
                  go_upto_region 48 with fail
                  rw [HY.out]
                  clear HY hpe
                  have HW2 : Hid (Below wf.heap.size wf Y2) := (HY1.out Y2 (HY2.out Y2 (Below.refl _ _)).2.2).2.2
                  obtain ⟨c0, c1, c2, c3, c4⟩ := five_cells (HFB.out Y2 HW2.out).1.2.2
                  go_wp2_with fail
                  refine (HDR.out Y2 (HFB.out Y2 HW2.out).2.2.2.2.2).mono ?_
                  rintro e f3 ⟨mo, mk, mc, R', eo3, ec3, hKA, rfl, hin, hp, _, hb⟩
                  have hx1 := hKA.oneM HKA.out
                  subst R'
                  obtain ⟨Y3, hY⟩ : ∃ Y, f3.alloc (.cells #[.int .i64 (chk h).1, .slice eo3 (chk h).2.length ec3] 52) = Y := ⟨_, rfl⟩
                  have HY : Hid (f3.alloc (.cells #[.int .i64 (chk h).1, .slice eo3 (chk h).2.length ec3] 52) = Y3) := hY
                  have HY3 : Hid (∀ wx, Below Y3.heap.size Y3 wx → HasInts wx (.slice mo mk mc) R ∧ Below Y2.heap.size Y2 wx) := fun wx hx => by
                    have g2 : Below f3.heap.size f3 Y3 := by rw [← hY]; exact (Below.refl _ _).alloc (Nat.le_refl _) _
                    exact ⟨hin.keep (btrH' g2 hx), btrH' hb (btrH' g2 hx)⟩
                  clear hin hp hb hY hKA c0 c1 c2 c3 c4
                  go_upto_region 49 with fail
                  rw [HY.out]
                  clear HY
                  have HAL : Hid (∀ wx, Below Y3.heap.size Y3 wx → (wx.heap[pu]? = some (.cells #[.slice yu0 H.node.length ku0, .slice yu1 H.upF.length ku1, .slice yu2 H.up.length ku2, .slice yu3 H.dnF.length ku3, .slice yu4 H.dn.length ku4] 25) ∧ wx.heap[pd]? = some (.cells #[.slice q0 H.node.length kq0, .slice q1 H.upF.length kq1, .slice q2 H.up.length kq2, .slice q3 H.dnF.length kq3, .slice q4 H.dn.length kq4] 25) ∧ wx.heap[pk]? = some (.cells #[.int .i64 N, .slice ko L.length kc] 35) ∧ wx.heap[pe]? = some (.cells #[.int .i64 N, .slice eo L.length ec] 35)) ∧ (HasH wx ⟨yu0, yu1, yu2, yu3, yu4, ku0, ku1, ku2, ku3, ku4⟩ H ∧ HasH wx ⟨q0, q1, q2, q3, q4, kq0, kq1, kq2, kq3, kq4⟩ H) ∧ (HasArcs wx (.slice ko L.length kc) L ∧ HasArcs wx (.slice eo L.length ec) L) ∧ (HasInts wx (.slice jo R.length jc) R ∧ HasInts wx (.slice mo mk mc) R) ∧ Below w.heap.size w wx) := fun wx hx => by
                    obtain ⟨g1, g2⟩ := HY3.out wx hx
                    obtain ⟨g3, g4, g5⟩ := HY2.out wx g2
                    obtain ⟨g6, g7, g8⟩ := HY1.out wx g5
                    obtain ⟨⟨h1, h2, h3⟩, h4, h5, h6, h7, h8⟩ := HFB.out wx g8
                    exact ⟨⟨h1, g6, h2, g3⟩, ⟨h4, g7⟩, ⟨h5, g4⟩, ⟨h6, g1⟩, h7⟩
                  have A3 := HAL.out Y3 (Below.refl _ _)
                  obtain ⟨a0, a1', a2, a3, a4⟩ := five_cells A3.1.1
                  obtain ⟨b0, b1', b2', b3', b4'⟩ := five_cells A3.1.2.1
                  have HTS : Hid (Calls Try.prog 11 #[.agg #[.slice yu0 H.node.length ku0, .slice yu1 H.upF.length ku1, .slice yu2 H.up.length ku2, .slice yu3 H.dnF.length ku3, .slice yu4 H.dn.length ku4], .agg #[.slice q0 H.node.length kq0, .slice q1 H.upF.length kq1, .slice q2 H.up.length kq2, .slice q3 H.dnF.length kq3, .slice q4 H.dn.length kq4]] Y3 fun e w' => e = .returned (.bool true) ∧ Below Y3.heap.size Y3 w') := by
                    have g := tSame_calls ⟨yu0, yu1, yu2, yu3, yu4, ku0, ku1, ku2, ku3, ku4⟩ ⟨q0, q1, q2, q3, q4, kq0, kq1, kq2, kq3, kq4⟩ H H Y3 A3.2.1.1 A3.2.1.2 HRT.out.short
                    rw [decide_eq_true (rfl : H = H)] at g
                    exact g
                  clear A3
                  go_wp2_with fail
                  refine HTS.out.mono ?_
                  rintro e n1 ⟨rfl, hb⟩
                  have M1 : Hid (Below Y3.heap.size Y3 n1) := hb
                  clear hb a0 a1' a2 a3 a4 b0 b1' b2' b3' b4'
                  obtain ⟨a0, a1', _, _⟩ := cell_two (HAL.out n1 M1.out).1.2.2.1
                  obtain ⟨b0, b1', _, _⟩ := cell_two (HAL.out n1 M1.out).1.2.2.2
                  go_wp2_with fail
                  refine (gsame_yes N ko eo kc ec L n1 (HAL.out n1 M1.out).2.2.1.1 (HAL.out n1 M1.out).2.2.1.2 (Nat.le_trans HGA.out.fewM (by decide))).mono ?_
                  rintro e n2 ⟨rfl, hb⟩
                  have M2 : Hid (Below Y3.heap.size Y3 n2) := btrH' M1.out hb
                  clear hb a0 a1' b0 b1'
                  go_wp2_with fail
                  refine (sameInts_yes (.slice jo R.length jc) (.slice mo mk mc) R n2 (HAL.out n2 M2.out).2.2.2.1.1 (HAL.out n2 M2.out).2.2.2.1.2 (Nat.le_trans HKA.out.fewM (by decide))).mono ?_
                  rintro e n3 ⟨rfl, hb⟩
                  have M3 : Hid (Below w.heap.size w n3) := (HAL.out n3 (btrH' M2.out hb)).2.2.2.2
                  clear hb
                  go_wp2
                  go_ret
                  exact ⟨rfl, M3.out⟩
end Go.Proofs.Ytkehpmbnbknpfaa.Hi
