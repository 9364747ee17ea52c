/- viaductref10.link at a shortcut whose children are rightly numbered. -/
import Derived.Test.YtodilocmfdeehaaGreatDoorHdL
import Derived.Test.YtodilocmfdeehaaGreatDoorHdM
namespace Go.Proofs.YtodilocmfdeehaaGreatDoor.Hi
open Go.RowKit Go.Extern Go.Shelf

attribute [local go_sem] Oper.semAt_some

theorem three_cells {w : World} {b : Nat} {T : TypeId} {a0 a1 a2 : Value} (h : w.heap[b]? = some (.cells #[a0, a1, a2] T)) : (w.cell? ⟨b, 0, none⟩ = some a0 ∧ w.cell? ⟨b, 1, none⟩ = some a1 ∧ w.cell? ⟨b, 2, none⟩ = some a2) ∧ w.frozen? ⟨b, 0, none⟩ = false ∧ w.frozen? ⟨b, 1, none⟩ = false ∧ w.frozen? ⟨b, 2, none⟩ = false := by simp [World.cell?, World.frozen?, h]
theorem set3_far {W : World} {b j : Nat} {x y u : Value} (hj : j ≠ b) : (((W.setCell ⟨b, 0, none⟩ x).setCell ⟨b, 1, none⟩ y).setCell ⟨b, 2, none⟩ u).heap[j]? = W.heap[j]? :=
  (Below.heap_setCell _ _ _ _ hj).trans ((Below.heap_setCell _ _ _ _ hj).trans (Below.heap_setCell _ _ _ _ hj))
theorem set3_up {Z W : World} {b : Nat} {x y u : Value} (h : Below Z.heap.size Z W) (hb : Z.heap.size ≤ b) : Below Z.heap.size Z (((W.setCell ⟨b, 0, none⟩ x).setCell ⟨b, 1, none⟩ y).setCell ⟨b, 2, none⟩ u) :=
  ((h.setCell (p := ⟨b, 0, none⟩) hb _).setCell (p := ⟨b, 1, none⟩) hb _).setCell (p := ⟨b, 2, none⟩) hb _
theorem mk_c {s : Sd} {all : List Sd} (hp : s.lk.plain = false) (g1 : ¬(all.length ≤ s.lk.lf ∨ all.length ≤ s.lk.rt)) (g : (sd all s.lk.lf).rk ≠ (sd all s.lk.rt).rk ∨ (sd all s.lk.lf).tail ≠ s.tail ∨ (sd all s.lk.rt).head ≠ s.head) : making s all = 14 := by
  have e : ¬(s.lk.plain = true) := by rw [hp]; exact Bool.false_ne_true
  unfold making
  rw [if_neg e, if_neg g1, if_pos (.inr (.inr g))]
theorem mk_d {s : Sd} {all : List Sd} (hp : s.lk.plain = false) (g1 : ¬(all.length ≤ s.lk.lf ∨ all.length ≤ s.lk.rt)) (g2 : (sd all s.lk.lf).up = false) (g3 : (sd all s.lk.rt).up = true) (g4 : (sd all s.lk.lf).rk = (sd all s.lk.rt).rk) (g5 : (sd all s.lk.lf).tail = s.tail) (g6 : (sd all s.lk.rt).head = s.head)
    {x y : Nat} (hx : (sd all s.lk.lf).lk.wt = x) (hy : (sd all s.lk.rt).lk.wt = y) : making s all = if 140737488355328 < s.lk.wt ∨ 140737488355328 < x ∨ 140737488355328 < y ∨ s.lk.wt ≠ x + y then 8 else 0 := by
  have e : ¬(s.lk.plain = true) := by rw [hp]; exact Bool.false_ne_true
  have e2 : ¬((sd all s.lk.lf).up = true ∨ (sd all s.lk.rt).up = false ∨ (sd all s.lk.lf).rk ≠ (sd all s.lk.rt).rk ∨ (sd all s.lk.lf).tail ≠ s.tail ∨ (sd all s.lk.rt).head ≠ s.head) := by simp [g2, g3, g4, g5, g6]
  unfold making
  rw [if_neg e, if_neg g1, if_neg e2, hx, hy]
  have e3 : (140737488355328 < max s.lk.wt (max x y) ∨ s.lk.wt ≠ x + y) ↔ (140737488355328 < s.lk.wt ∨ 140737488355328 < x ∨ 140737488355328 < y ∨ s.lk.wt ≠ x + y) := by omega
  by_cases g : 140737488355328 < s.lk.wt ∨ 140737488355328 < x ∨ 140737488355328 < y ∨ s.lk.wt ≠ x + y
  · rw [if_pos g, if_pos (e3.2 g)]
  · rw [if_neg g, if_neg (fun q => g (e3.1 q))]

set_option maxRecDepth 100000 in
set_option maxHeartbeats 4000000 in
theorem rlink_deep (v : HV) (h : Hr) (mo : Option Addr) (mc i : Nat) (w : World) (hH : HasH w v h) (hR : HasRk w (.slice mo (stds h).length mc) h) (hu : FOk h.upF h.up.length) (hd : FOk h.dnF h.dn.length) (hN : h.node.length ≤ 65536) (hL : h.up.length + h.dn.length ≤ 1048576) (hi : i < (stds h).length)
    (hdp : ¬(rising (stds h) i = false ∨ (sd (stds h) i).lk.hd ≤ (sd (stds h) i).rk ∨ h.node.length ≤ (sd (stds h) i).lk.hd) ∧ (sd (stds h) i).lk.plain = false ∧ (sd (stds h) i).lk.lf < (stds h).length ∧ (sd (stds h) i).lk.rt < (stds h).length ∧ h.up.length ≤ (sd (stds h) i).lk.lf ∧ (sd (stds h) i).lk.rt < h.up.length) :
    Calls Tryz.prog 51 #[hvl v h, .slice mo (stds h).length mc, .int .i64 (i : Int)] w fun e w' => RA w (if lerr h.node.length (stds h) i = 0 then ((0 : Int), ([] : List (Int × Int))) else (lerr h.node.length (stds h) i, [(4, (i : Int))])) e w' := by
  have hlen := stds_len hu hd
  obtain ⟨z, hz⟩ : ∃ z, w.heap.size = z := ⟨_, rfl⟩
  obtain ⟨W0, hW0⟩ : ∃ W0, (w.alloc (.cells (cellsH v h) 25)).alloc (.cells #[.int .i64 0, .slice none 0 0] 36) = W0 := ⟨_, rfl⟩
  have hB0 : Below w.heap.size w W0 := by rw [← hW0]; exact ((Below.refl _ w).alloc (Nat.le_refl _) _).alloc (by simp) _
  have h0 : W0.heap[z]? = some (.cells (cellsH v h) 25) := by
    rw [← hW0, ← hz]; exact (Below.heap_alloc _ _ _ (by simp)).trans (heap_newW _ _)
  have h1 : W0.heap[z + 1]? = some (.cells #[.int .i64 0, .slice none 0 0] 36) := by
    have g := heap_newW (w.alloc (.cells (cellsH v h) 25)) (.cells #[.int .i64 0, .slice none 0 0] 36)
    rw [World.size_alloc, hW0, hz] at g
    exact g
  have HS0 : Hid (z + 1 < W0.heap.size) := some_lt h1
  have HQ : Hid (∀ wx, Below W0.heap.size W0 wx → (wx.cell? ⟨z, 0, none⟩ = some (.slice v.no h.node.length v.nc) ∧ wx.cell? ⟨z, 1, none⟩ = some (.slice v.uo h.upF.length v.uc) ∧ wx.cell? ⟨z, 2, none⟩ = some (.slice v.ul h.up.length v.ulc) ∧ wx.cell? ⟨z, 3, none⟩ = some (.slice v.wo h.dnF.length v.wc) ∧ wx.cell? ⟨z, 4, none⟩ = some (.slice v.dl h.dn.length v.dlc)) ∧ wx.heap[z + 1]? = some (.cells #[.int .i64 0, .slice none 0 0] 36) ∧ HasH wx v h ∧ Below w.heap.size w wx) := fun wx hx => by
    have g := hB0.trans (hx.mono hB0.size)
    exact ⟨five_cells ((hx.block _ (some_lt h0)).trans h0), (hx.block _ (some_lt h1)).trans h1, hH.keep g, g⟩
  have HLK : Hid (∀ wx, Below W0.heap.size W0 wx → ∀ j, j < (stds h).length → Calls Tryz.prog 27 #[hvl v h, .int .i64 (j : Int)] wx fun e w' => e = .returned (lvl (linkAt h j)) ∧ Below wx.heap.size wx w') := fun wx hx j hj => link_calls v h j wx (HQ.out wx hx).2.2.1 (by omega) (by omega)
  have hlk := stds_lk hu hd hi
  have HRK : Hid (∀ wx, Below W0.heap.size W0 wx → HasRk wx (.slice mo (stds h).length mc) h) := fun wx hx => hR.keep (HQ.out wx hx).2.2.2
  have hok : (linkAt h i).ok := by
    unfold linkAt
    rcases Nat.lt_or_ge i h.up.length with g | g
    · rw [List.getD_eq_getElem?_getD, List.getElem?_append_left g, List.getElem?_eq_getElem g]; exact hH.up.ok _ (List.getElem_mem g)
    · rw [List.getD_eq_getElem?_getD, List.getElem?_append_right g, List.getElem?_eq_getElem (by omega)]; exact hH.dn.ok _ (List.getElem_mem (by omega))
  have HEND : Hid (∀ wx, Below W0.heap.size W0 wx → ∀ (F : Int × List (Int × Int)) (fo : Option Addr) (fc : Nat), HasPlaces wx (.slice fo F.2.length fc) F.2 → (∀ a, fo = some a → a.block ≠ z + 1) → RA w F (.returned (.agg #[.int .i64 F.1, .slice fo F.2.length fc])) ((wx.setCell ⟨z + 1, 0, none⟩ (.int .i64 F.1)).setCell ⟨z + 1, 1, none⟩ (.slice fo F.2.length fc)) ∧ ((wx.setCell ⟨z + 1, 0, none⟩ (.int .i64 F.1)).setCell ⟨z + 1, 1, none⟩ (.slice fo F.2.length fc)).heap[z + 1]? = some (.cells #[.int .i64 F.1, .slice fo F.2.length fc] 36)) := fun wx hx F fo fc hp hne => by
    refine ⟨⟨fo, fc, rfl, pl_far hp (by simp [World.setCell]) (fun j hj ⟨a, ea, eb⟩ => (Below.heap_setCell _ _ _ _ (by rw [← eb]; exact hne a ea)).trans (Below.heap_setCell _ _ _ _ (by rw [← eb]; exact hne a ea))), ((HQ.out wx hx).2.2.2.setCell (p := ⟨z + 1, 0, none⟩) (by show w.heap.size ≤ z + 1; omega) _).setCell (p := ⟨z + 1, 1, none⟩) (by show w.heap.size ≤ z + 1; omega) _⟩, set_err (HQ.out wx hx).2.1 _ _⟩
  have HW0 : Hid ((w.alloc (.cells (cellsH v h) 25)).alloc (.cells #[.int .i64 0, .slice none 0 0] 36) = W0) := hW0
  obtain ⟨c0, c1, c2, c3, c4⟩ := (HQ.out W0 (Below.refl _ _)).1
  have HLI : Hid (∀ wx, Below W0.heap.size W0 wx → Calls Tryz.prog 27 #[hvl v h, .int .i64 (i : Int)] wx fun e w' => e = .returned (lvl (linkAt h i)) ∧ Below wx.heap.size wx w') := fun wx hx => HLK.out wx hx i hi
  obtain ⟨mb, emo, _⟩ := (HRK.out W0 (Below.refl _ _)).at hi
  subst emo
  have HRI : Hid (∀ wx, Below W0.heap.size W0 wx → ∀ j, j < (stds h).length → wx.cell? ⟨mb, j, none⟩ = some (.int .i64 ((sd (stds h) j).rk : Int))) := fun wx hx j hj => by
    obtain ⟨b, e, q, _⟩ := (HRK.out wx hx).at hj
    cases e
    exact q
  have HRM : Hid (mb < W0.heap.size) := by
    obtain ⟨b, e, _, cur, q⟩ := (HRK.out W0 (Below.refl _ _)).at hi
    cases e
    exact some_lt q
  obtain ⟨l, hl⟩ : ∃ l, linkAt h i = l := ⟨_, rfl⟩
  rw [hl] at HLI hok hlk
  obtain ⟨n, hn⟩ : ∃ n, (stds h).length = n := ⟨_, rfl⟩
  have HLN : Hid ((stds h).length = n ∧ n = h.up.length + h.dn.length) := ⟨hn, by omega⟩
  rw [hn] at hi ⊢
  have j1 : (0 : Int) ≤ (i : Int) := by omega
  have j2 : (i : Int) < (n : Int) := by omega
  have x1 : IntKind.i64.wrap (l.hd : Int) = (l.hd : Int) := by rw [IntKind.wrap_i64]; have := hok.1; omega
  have x2 : IntKind.u64.wrap (l.hd : Int) = (l.hd : Int) := by rw [IntKind.wrap_u64]; have := hok.1; omega
  have x3 : IntKind.u64.wrap (h.node.length : Int) = (h.node.length : Int) := by rw [IntKind.wrap_u64]; omega
  have x4 : IntKind.i64.wrap ((h.up.length : Int) + (h.dn.length : Int)) = (h.up.length : Int) + (h.dn.length : Int) := by rw [IntKind.wrap_i64]; omega
  have HOK : Hid l.ok := hok
  have n0 : z ≠ W0.heap.size := (by have := HS0.out; omega)
  have p0 : W0.heap.size ≠ z := n0.symm
  rw [← hlk] at hdp
  have HDP : Hid (¬(rising (stds h) i = false ∨ l.hd ≤ (sd (stds h) i).rk ∨ h.node.length ≤ l.hd) ∧ l.plain = false ∧ l.lf < (stds h).length ∧ l.rt < (stds h).length ∧ h.up.length ≤ l.lf ∧ l.rt < h.up.length) := hdp
  clear hdp
  have HEO : Hid (∀ wx, Below W0.heap.size W0 wx → ∀ j, j < (stds h).length → Calls Tryz.prog 52 #[hvl v h, .slice (some ⟨mb, 0, none⟩) (stds h).length mc, .int .i64 (j : Int)] wx fun e w' => e = .returned (.agg #[.int .i64 ((sd (stds h) j).tail : Int), .int .i64 ((sd (stds h) j).head : Int), .int .i64 ((sd (stds h) j).rk : Int)]) ∧ Below wx.heap.size wx w') := fun wx hx j hj => endOf_calls v h _ mc j wx (HQ.out wx hx).2.2.1 (HRK.out wx hx) hu hd hL hj
  have HLKK : Hid (∀ j, j < (stds h).length → linkAt h j = (sd (stds h) j).lk) := fun j hj => stds_lk hu hd hj
  unfold hvl at HEO
  rw [hn] at HEO
  have HLK1 : Hid (l = (sd (stds h) i).lk) := hlk
  obtain ⟨R, hRR⟩ : ∃ R, (if lerr h.node.length (stds h) i = 0 then ((0 : Int), ([] : List (Int × Int))) else (lerr h.node.length (stds h) i, [(4, (i : Int))])) = R := ⟨_, rfl⟩
  rw [hRR]
  have HLOW : Hid (rising (stds h) i = false ∨ l.hd ≤ (sd (stds h) i).rk ∨ h.node.length ≤ l.hd → R = (14, [(4, (i : Int))])) := fun g => by
    rw [hlk] at g
    have e : lerr h.node.length (stds h) i = 14 := by unfold lerr; rw [if_pos g]
    rw [← hRR, e]; rfl
  have HMK : Hid (¬(rising (stds h) i = false ∨ l.hd ≤ (sd (stds h) i).rk ∨ h.node.length ≤ l.hd) → R = if making (sd (stds h) i) (stds h) = 0 then (0, []) else (making (sd (stds h) i) (stds h), [(4, (i : Int))])) := fun g => by
    rw [hlk] at g
    have e : lerr h.node.length (stds h) i = making (sd (stds h) i) (stds h) := by unfold lerr; rw [if_neg g]
    rw [← hRR, e]
  have HRS : Hid (rising (stds h) i = false ↔ i ≠ 0 ∧ i ≠ h.up.length ∧ (sd (stds h) (i - 1)).rk = (sd (stds h) i).rk ∧ l.hd ≤ (linkAt h (i - 1)).hd) := by rw [← hl]; exact rising_false hu hd (by omega)
  clear hRR
  clear hW0 h0 h1 hB0 hH hR hok hl hlen hn hlk
  unfold cellsH at HW0
  unfold hvl at HLI HLK ⊢
  unfold lvl at HLI HLK
  go_enter Tryz.func51, Tryz.ntmps51
  go_upto_region 1 with fail
  rw [HW0.out]
  go_wp2_with fail
  rename_i K1 aK1
  have KEY1 : ∀ (b17 b18 b19 b20 b21 b22 b23 b24 b25 b26 b27 b28 b29 : Value) (q : Nat) (WX : World), Hid (Below W0.heap.size W0 WX ∧ WX.heap[q]? = some (.cells #[.int .u32 (l.hd : Int), .int .u64 (l.wt : Int), .int .u32 (l.lf : Int), .int .u32 (l.rt : Int)] 65) ∧ z + 1 < q) → K1 { tmps := #[(.agg #[.slice v.no h.node.length v.nc, .slice v.uo h.upF.length v.uc, .slice v.ul h.up.length v.ulc, .slice v.wo h.dnF.length v.wc, .slice v.dl h.dn.length v.dlc]), (.slice (some ⟨mb, 0, none⟩) n mc), (.int .i64 (i : Int)), (.pointer (some ⟨z, 0, none⟩)), undef, undef, (.pointer (some ⟨z + 1, 0, none⟩)), (.pointer (some ⟨q, 0, none⟩)), (.int .i64 (h.node.length : Int)), (.int .i64 ((h.up.length : Int) + (h.dn.length : Int))), undef, undef, undef, undef, undef, undef, undef, b17, b18, b19, b20, b21, b22, b23, b24, b25, b26, b27, b28, b29, undef, undef, undef, undef, undef, undef, undef, undef, undef, undef, undef, undef, undef, undef, undef, undef, undef, undef, undef, undef, undef, undef, undef, undef, undef, undef, undef, undef, undef, undef, undef, undef, undef, undef, undef, undef, undef, undef, undef, undef, undef, undef, undef, undef, undef, undef, undef, undef, undef, undef, undef, undef, undef, undef, undef, undef, undef, undef, undef, undef, undef, undef, undef, undef, undef, undef, undef, undef, undef, undef, undef, undef, undef, undef, undef, undef, undef, undef, undef, undef, undef, undef, undef, undef, undef, undef, undef, undef, undef, undef, undef, undef, undef, undef, undef, undef, undef, undef, undef, undef, undef, undef, undef, undef, undef, undef, undef, undef, undef, undef, undef, undef, undef, undef, undef, undef, undef, undef, undef, undef, undef, undef, undef, undef, undef, undef, undef, undef, undef, undef, undef, undef, undef, undef, undef, undef, undef, undef, undef, undef, undef, undef, undef, undef, undef, undef, undef, undef, undef, undef, undef, undef, undef, undef, undef, undef, undef, undef, undef, undef, undef, undef, undef, undef], defers := [] } WX := by
    clear c0 c1 c2 c3 c4
    intro b17 b18 b19 b20 b21 b22 b23 b24 b25 b26 b27 b28 b29 q WX HX
    refine aK1 _ _ ?_
    have HY : Hid (∀ wx, Below WX.heap.size WX wx → wx.heap[q]? = some (.cells #[.int .u32 (l.hd : Int), .int .u64 (l.wt : Int), .int .u32 (l.lf : Int), .int .u32 (l.rt : Int)] 65) ∧ Below W0.heap.size W0 wx) := fun wx hx => ⟨(hx.block _ (some_lt HX.out.2.1)).trans HX.out.2.1, btrH' HX.out.1 hx⟩
    have HQZ : Hid (z + 1 < q) := HX.out.2.2
    clear HX
    go_wp2_with fail
    refine (E_calls 14 WX).mono ?_
    rintro e w1 ⟨rfl, hb1⟩
    have B1 : Hid (Below WX.heap.size WX w1) := hb1
    clear hb1
    go_wp2_with fail
    refine (refAt_calls 4 (i : Int) 14 w1).mono ?_
    rintro e w2 ⟨g, rfl, hg, hb2⟩
    have B2 : Hid (Below WX.heap.size WX w2) := btrH' B1.out hb2
    obtain ⟨s, hs⟩ : ∃ s, w2.heap.size = s := ⟨_, rfl⟩
    obtain ⟨W3, hW3⟩ : ∃ W3, w2.alloc (.cells #[.int .i64 14, .slice (some ⟨g, 0, none⟩) 1 1] 36) = W3 := ⟨_, rfl⟩
    have HW3 : Hid (w2.alloc (.cells #[.int .i64 14, .slice (some ⟨g, 0, none⟩) 1 1] 36) = W3) := hW3
    have B3 : Hid (Below WX.heap.size WX W3) := by show Below _ _ _; rw [← hW3]; exact B2.out.alloc B2.out.size _
    have HG : Hid (g ≠ z + 1) := fun e => by
      have := (HQ.out w2 (HY.out w2 B2.out).2).2.1
      rw [← e, hg] at this
      simp at this
    have HP : Hid (∀ wx, Below W3.heap.size W3 wx → HasPlaces wx (.slice (some ⟨g, 0, none⟩) 1 1) [(4, (i : Int))] ∧ wx.heap[s]? = some (.cells #[.int .i64 14, .slice (some ⟨g, 0, none⟩) 1 1] 36) ∧ Below WX.heap.size WX wx) := fun wx hx => by
      have e1 : W3.heap[g]? = some (.cells #[.int .i64 4, .int .i64 (i : Int)] 78) := by rw [← hW3]; exact (Below.heap_alloc _ _ _ (some_lt hg)).trans hg
      have e2 : W3.heap[s]? = some (.cells #[.int .i64 14, .slice (some ⟨g, 0, none⟩) 1 1] 36) := by rw [← hW3, ← hs]; exact heap_newW _ _
      exact ⟨pl_one ((hx.block _ (some_lt e1)).trans e1), (hx.block _ (some_lt e2)).trans e2, btrH' B3.out hx⟩
    clear hb2 hg hW3 B1 B2 B3
    go_upto_region 3 with fail
    rw [HW3.out]
    clear HW3
    obtain ⟨⟨k0, k1, k2, k3⟩, _⟩ := four_cells (HY.out W3 (HP.out W3 (Below.refl _ _)).2.2).1
    have kr := HRI.out W3 (HY.out W3 (HP.out W3 (Below.refl _ _)).2.2).2 i (by rw [HLN.out.1]; exact hi)
    have HW3 : Hid (Below W3.heap.size W3 W3) := Below.refl _ _
    go_wp2_with fail
    have ga : ¬ h.node.length ≤ l.hd := fun g' => HDP.out.1 (.inr (.inr g'))
    have gb : ¬ l.hd ≤ (sd (stds h) i).rk := fun g' => HDP.out.1 (.inr (.inl g'))
    have hrf : ¬ rising (stds h) i = false := fun g' => HDP.out.1 (.inl g')
    have ia : decide ((l.hd : Int) ≥ (h.node.length : Int)) = false := by simp; omega
    have ib : decide (h.node.length ≤ l.hd) = false := by simpa using ga
    have ic : decide ((l.hd : Int) ≤ ((sd (stds h) i).rk : Int)) = false := by simp; omega
    have id : decide (l.hd ≤ (sd (stds h) i).rk) = false := by simpa using gb
    go_quiet (fail)
    have HW4 : Hid (Below W3.heap.size W3 (W3.drewN nq)) := bdrew HW3.out _
    generalize W3.drewN nq = W4 at *
    clear k0 k1 k2 k3 kr
    obtain ⟨c0, c1, c2, c3, c4⟩ := (HQ.out W4 (HY.out W4 (HP.out W4 HW4.out).2.2).2).1
    obtain ⟨⟨k0, k1, k2, k3⟩, _⟩ := four_cells (HY.out W4 (HP.out W4 HW4.out).2.2).1
    have kr := HRI.out W4 (HY.out W4 (HP.out W4 HW4.out).2.2).2 i (by rw [HLN.out.1]; exact hi)
    go_wp2_with fail
    rename_i K5 aK5
    have KEY5 : ∀ (b17 b18 b19 b20 b21 b22 b23 b24 b25 b26 b27 b28 b29 b30 b31 b32 b33 b34 b35 b36 b37 b38 b39 b40 b41 b42 b43 b44 b45 b46 b47 b48 b49 b50 b51 b52 b53 b54 b55 b56 b57 b58 b59 b60 b61 b62 b63 b64 b65 b66 b67 b68 b69 b70 b71 b72 b73 b74 b75 b76 b77 b78 b79 : Value) (WY : World), Hid (Below W3.heap.size W3 WY) → K5 { tmps := #[(.agg #[.slice v.no h.node.length v.nc, .slice v.uo h.upF.length v.uc, .slice v.ul h.up.length v.ulc, .slice v.wo h.dnF.length v.wc, .slice v.dl h.dn.length v.dlc]), (.slice (some ⟨mb, 0, none⟩) n mc), (.int .i64 (i : Int)), (.pointer (some ⟨z, 0, none⟩)), undef, undef, (.pointer (some ⟨z + 1, 0, none⟩)), (.pointer (some ⟨q, 0, none⟩)), (.int .i64 (h.node.length : Int)), (.int .i64 ((h.up.length : Int) + (h.dn.length : Int))), (.pointer (some ⟨s, 0, none⟩)), undef, undef, undef, undef, undef, undef, b17, b18, b19, b20, b21, b22, b23, b24, b25, b26, b27, b28, b29, b30, b31, b32, b33, b34, b35, b36, b37, b38, b39, b40, b41, b42, b43, b44, b45, b46, b47, b48, b49, b50, b51, b52, b53, b54, b55, b56, b57, b58, b59, b60, b61, b62, b63, b64, b65, b66, b67, b68, b69, b70, b71, b72, b73, b74, b75, b76, b77, b78, b79, (.bool false), undef, undef, undef, undef, undef, undef, undef, undef, undef, undef, undef, undef, undef, undef, undef, undef, undef, undef, undef, undef, undef, undef, undef, undef, undef, undef, undef, undef, undef, undef, undef, undef, undef, undef, undef, undef, undef, undef, undef, undef, undef, undef, undef, undef, undef, undef, undef, undef, undef, undef, undef, undef, undef, undef, undef, undef, undef, undef, undef, undef, undef, undef, undef, undef, undef, undef, undef, undef, undef, undef, undef, undef, undef, undef, undef, undef, undef, undef, undef, undef, undef, undef, undef, undef, undef, undef, undef, undef, undef, undef, undef, undef, undef, undef, undef, undef, undef, undef, undef, undef, undef, undef, undef, undef, undef, undef, undef, undef, undef, undef, undef, undef, undef], defers := [] } WY := by
      clear c0 c1 c2 c3 c4 k0 k1 k2 k3 kr
      intro b17 b18 b19 b20 b21 b22 b23 b24 b25 b26 b27 b28 b29 b30 b31 b32 b33 b34 b35 b36 b37 b38 b39 b40 b41 b42 b43 b44 b45 b46 b47 b48 b49 b50 b51 b52 b53 b54 b55 b56 b57 b58 b59 b60 b61 b62 b63 b64 b65 b66 b67 b68 b69 b70 b71 b72 b73 b74 b75 b76 b77 b78 b79 WY HWY
      refine aK5 _ _ ?_
      go_wp2_with fail
      refine (E_calls 8 WY).mono ?_
      rintro e w5 ⟨rfl, hb⟩
      have B5 : Hid (Below W3.heap.size W3 w5) := btrH' HWY.out hb
      clear hb
      go_wp2_with fail
      refine (refAt_calls 4 (i : Int) 8 w5).mono ?_
      rintro e w6 ⟨g2, rfl, hg, hb⟩
      have B6 : Hid (Below W3.heap.size W3 w6) := btrH' B5.out hb
      obtain ⟨s2, hs2⟩ : ∃ s, w6.heap.size = s := ⟨_, rfl⟩
      obtain ⟨W7, hW7⟩ : ∃ W7, w6.alloc (.cells #[.int .i64 8, .slice (some ⟨g2, 0, none⟩) 1 1] 36) = W7 := ⟨_, rfl⟩
      have HW7 : Hid (w6.alloc (.cells #[.int .i64 8, .slice (some ⟨g2, 0, none⟩) 1 1] 36) = W7) := hW7
      have B7 : Hid (Below W3.heap.size W3 W7) := by show Below _ _ _; rw [← hW7]; exact B6.out.alloc B6.out.size _
      have HG2 : Hid (g2 ≠ z + 1) := fun e => by
        have := (HQ.out w6 (HY.out w6 (HP.out w6 B6.out).2.2).2).2.1
        rw [← e, hg] at this
        simp at this
      have HP7 : Hid (∀ wx, Below W7.heap.size W7 wx → HasPlaces wx (.slice (some ⟨g2, 0, none⟩) 1 1) [(4, (i : Int))] ∧ wx.heap[s2]? = some (.cells #[.int .i64 8, .slice (some ⟨g2, 0, none⟩) 1 1] 36) ∧ Below W3.heap.size W3 wx) := fun wx hx => by
        have e1 : W7.heap[g2]? = some (.cells #[.int .i64 4, .int .i64 (i : Int)] 78) := by rw [← hW7]; exact (Below.heap_alloc _ _ _ (some_lt hg)).trans hg
        have e2 : W7.heap[s2]? = some (.cells #[.int .i64 8, .slice (some ⟨g2, 0, none⟩) 1 1] 36) := by rw [← hW7, ← hs2]; exact heap_newW _ _
        exact ⟨pl_one ((hx.block _ (some_lt e1)).trans e1), (hx.block _ (some_lt e2)).trans e2, btrH' B7.out hx⟩
      have HPL : Hid (Calls Tryz.prog 26 #[.agg #[.int .u32 (l.hd : Int), .int .u64 (l.wt : Int), .int .u32 (l.lf : Int), .int .u32 (l.rt : Int)]] W7 fun e w' => e = .returned (.bool l.plain) ∧ Below W7.heap.size W7 w') := by
        have := tplain_calls l W7
        unfold lvl at this
        exact this
      clear hb hg hW7 B5 B6
      go_upto_region 8 with fail
      rw [HW7.out]
      clear HW7
      obtain ⟨⟨k0, k1, k2, k3⟩, _⟩ := four_cells (HY.out W7 (HP.out W7 B7.out).2.2).1
      go_wp2_with fail
      refine HPL.out.mono ?_
      rintro e w8 ⟨rfl, hb⟩
      rw [HDP.out.2.1]
      have B8 : Hid (Below W7.heap.size W7 w8) := hb
      have Hw8 : Hid (Below W3.heap.size W3 w8) := (HP7.out w8 hb).2.2
      clear hb k0 k1 k2 k3
      obtain ⟨⟨k0, k1, k2, k3⟩, _⟩ := four_cells (HY.out w8 (HP.out w8 Hw8.out).2.2).1
      obtain ⟨c0, c1, c2, c3, c4⟩ := (HQ.out w8 (HY.out w8 (HP.out w8 Hw8.out).2.2).2).1
      have HM := HMK.out HDP.out.1
      have HHM : Hid (R = if making (sd (stds h) i) (stds h) = 0 then (0, []) else (making (sd (stds h) i) (stds h), [(4, (i : Int))])) := HM
      clear HM
      have y1 : IntKind.u64.wrap (l.lf : Int) = (l.lf : Int) := by rw [IntKind.wrap_u64]; have := HOK.out.2.2.1; omega
      have y2 : IntKind.u64.wrap (l.rt : Int) = (l.rt : Int) := by rw [IntKind.wrap_u64]; have := HOK.out.2.2.2; omega
      have y3 : IntKind.u64.wrap ((h.up.length : Int) + (h.dn.length : Int)) = (h.up.length : Int) + (h.dn.length : Int) := by rw [IntKind.wrap_u64]; omega
      have y4 : IntKind.i64.wrap (l.lf : Int) = (l.lf : Int) := by rw [IntKind.wrap_i64]; have := HOK.out.2.2.1; omega
      have y5 : IntKind.i64.wrap (l.rt : Int) = (l.rt : Int) := by rw [IntKind.wrap_i64]; have := HOK.out.2.2.2; omega
      have p1 : ¬ h.up.length + h.dn.length ≤ l.lf := by have := HDP.out.2.2.1; rw [HLN.out.1, HLN.out.2] at this; omega
      have p2 : ¬ h.up.length + h.dn.length ≤ l.rt := by have := HDP.out.2.2.2.1; rw [HLN.out.1, HLN.out.2] at this; omega
      have p3 : ¬ l.lf < h.up.length := by have := HDP.out.2.2.2.2.1; omega
      have p4 : ¬ h.up.length ≤ l.rt := by have := HDP.out.2.2.2.2.2; omega
      have a1 : decide ((l.lf : Int) ≥ (h.up.length : Int) + (h.dn.length : Int)) = false := by simp; omega
      have a2 : decide ((h.up.length : Int) + (h.dn.length : Int) ≤ (l.lf : Int)) = false := by simp; omega
      have a3 : decide ((l.rt : Int) ≥ (h.up.length : Int) + (h.dn.length : Int)) = false := by simp; omega
      have a4 : decide ((h.up.length : Int) + (h.dn.length : Int) ≤ (l.rt : Int)) = false := by simp; omega
      have a5 : decide ((l.lf : Int) < (h.up.length : Int)) = false := by simp; omega
      have a6 : decide (l.lf < h.up.length) = false := by simpa using p3
      have a7 : decide ((l.rt : Int) ≥ (h.up.length : Int)) = false := by simp; omega
      have a8 : decide (h.up.length ≤ l.rt) = false := by simpa using p4
      have HU1 : Hid ((sd (stds h) l.lf).up = decide (l.lf < h.up.length)) := sd_up hu hd HDP.out.2.2.1
      have HU2 : Hid ((sd (stds h) l.rt).up = decide (l.rt < h.up.length)) := sd_up hu hd HDP.out.2.2.2.1
      clear p1 p2 p3 p4
      go_wp2_with fail
      rename_i K14 aK14
      have KEY14 : ∀ (b17 b18 b19 b20 b21 b22 b23 b24 b25 b26 b27 b28 b29 b30 b31 b32 b33 b34 b35 b36 b37 b38 b39 b40 b41 b42 b43 b44 b45 b46 b47 b48 b49 b50 b51 b52 b53 b54 b55 b56 b57 b58 b59 b60 b61 b62 b63 b64 b65 b66 b67 b68 b69 b70 b71 b72 b73 b74 b75 b76 b77 b78 b79 b80 b81 b82 b83 b84 b85 b86 b87 b88 b89 b90 b91 b92 b93 b94 b95 b96 b97 b98 b99 b100 b101 b102 b103 b104 b105 b106 b107 b108 b109 b110 b111 b112 b113 b114 b115 b116 b117 b118 b119 b120 b121 b122 b123 b124 b125 b126 b127 b128 b129 b130 b131 b132 b133 b134 b135 b136 b137 b138 b139 b140 : Value) (e1 e2 e3 : Nat) (WV : World), Hid (WV.heap[e1]? = some (.cells #[.int .i64 ((sd (stds h) i).tail : Int), .int .i64 ((sd (stds h) i).head : Int), .int .i64 ((sd (stds h) i).rk : Int)] 59) ∧ WV.heap[e2]? = some (.cells #[.int .i64 ((sd (stds h) l.lf).tail : Int), .int .i64 ((sd (stds h) l.lf).head : Int), .int .i64 ((sd (stds h) l.lf).rk : Int)] 59) ∧ WV.heap[e3]? = some (.cells #[.int .i64 ((sd (stds h) l.rt).tail : Int), .int .i64 ((sd (stds h) l.rt).head : Int), .int .i64 ((sd (stds h) l.rt).rk : Int)] 59) ∧ Below W7.heap.size W7 WV) → K14 { tmps := #[(.agg #[.slice v.no h.node.length v.nc, .slice v.uo h.upF.length v.uc, .slice v.ul h.up.length v.ulc, .slice v.wo h.dnF.length v.wc, .slice v.dl h.dn.length v.dlc]), (.slice (some ⟨mb, 0, none⟩) n mc), (.int .i64 (i : Int)), (.pointer (some ⟨z, 0, none⟩)), undef, undef, (.pointer (some ⟨z + 1, 0, none⟩)), (.pointer (some ⟨q, 0, none⟩)), (.int .i64 (h.node.length : Int)), (.int .i64 ((h.up.length : Int) + (h.dn.length : Int))), (.pointer (some ⟨s, 0, none⟩)), (.pointer (some ⟨s2, 0, none⟩)), (.pointer (some ⟨e1, 0, none⟩)), (.pointer (some ⟨e2, 0, none⟩)), (.pointer (some ⟨e3, 0, none⟩)), undef, undef, b17, b18, b19, b20, b21, b22, b23, b24, b25, b26, b27, b28, b29, b30, b31, b32, b33, b34, b35, b36, b37, b38, b39, b40, b41, b42, b43, b44, b45, b46, b47, b48, b49, b50, b51, b52, b53, b54, b55, b56, b57, b58, b59, b60, b61, b62, b63, b64, b65, b66, b67, b68, b69, b70, b71, b72, b73, b74, b75, b76, b77, b78, b79, b80, b81, b82, b83, b84, b85, b86, b87, b88, b89, b90, b91, b92, b93, b94, b95, b96, b97, b98, b99, b100, b101, b102, b103, b104, b105, b106, b107, b108, b109, b110, b111, b112, b113, b114, b115, b116, b117, b118, b119, b120, b121, b122, b123, b124, b125, b126, b127, b128, b129, b130, b131, b132, b133, b134, b135, b136, b137, b138, b139, b140, undef, undef, undef, undef, undef, undef, undef, undef, undef, undef, undef, undef, undef, undef, undef, undef, undef, undef, undef, undef, undef, undef, undef, undef, undef, undef, undef, undef, undef, undef, undef, undef, undef, undef, undef, undef, undef, undef, undef, undef, undef, undef, undef, undef, undef, undef, undef, undef, undef, undef, undef, undef, undef], defers := [] } WV := by
        intro b17 b18 b19 b20 b21 b22 b23 b24 b25 b26 b27 b28 b29 b30 b31 b32 b33 b34 b35 b36 b37 b38 b39 b40 b41 b42 b43 b44 b45 b46 b47 b48 b49 b50 b51 b52 b53 b54 b55 b56 b57 b58 b59 b60 b61 b62 b63 b64 b65 b66 b67 b68 b69 b70 b71 b72 b73 b74 b75 b76 b77 b78 b79 b80 b81 b82 b83 b84 b85 b86 b87 b88 b89 b90 b91 b92 b93 b94 b95 b96 b97 b98 b99 b100 b101 b102 b103 b104 b105 b106 b107 b108 b109 b110 b111 b112 b113 b114 b115 b116 b117 b118 b119 b120 b121 b122 b123 b124 b125 b126 b127 b128 b129 b130 b131 b132 b133 b134 b135 b136 b137 b138 b139 b140 e1 e2 e3 WV HV
        refine aK14 _ _ ?_
        have HWV : Hid (Below W3.heap.size W3 WV) := (HP7.out WV HV.out.2.2.2).2.2
        have HNL : Hid (¬((stds h).length ≤ l.lf ∨ (stds h).length ≤ l.rt)) := by have a := HDP.out.2.2.1; have b := HDP.out.2.2.2.1; show ¬ _; omega
        obtain ⟨⟨x0, x1, x2⟩, _⟩ := three_cells HV.out.1
        obtain ⟨⟨z0, z1, z2⟩, _⟩ := three_cells HV.out.2.1
        obtain ⟨⟨t0, t1, t2⟩, _⟩ := three_cells HV.out.2.2.1
        by_cases m1 : (sd (stds h) l.lf).tail = (sd (stds h) i).tail
        · by_cases m2 : (sd (stds h) l.rt).head = (sd (stds h) i).head
          · by_cases m3 : (sd (stds h) l.lf).rk = (sd (stds h) l.rt).rk
            · have u1 : (((sd (stds h) l.lf).tail : Int) == ((sd (stds h) i).tail : Int)) = true := by simp; omega
              have v1 : (((sd (stds h) l.lf).tail : Int) != ((sd (stds h) i).tail : Int)) = false := by simp; omega
              have u2 : (((sd (stds h) l.rt).head : Int) == ((sd (stds h) i).head : Int)) = true := by simp; omega
              have v2 : (((sd (stds h) l.rt).head : Int) != ((sd (stds h) i).head : Int)) = false := by simp; omega
              have u3 : (((sd (stds h) l.lf).rk : Int) == ((sd (stds h) l.rt).rk : Int)) = true := by simp; omega
              have v3 : (((sd (stds h) l.lf).rk : Int) != ((sd (stds h) l.rt).rk : Int)) = false := by simp; omega
              obtain ⟨c0, c1, c2, c3, c4⟩ := (HQ.out WV (HY.out WV (HP.out WV HWV.out).2.2).2).1
              obtain ⟨⟨k0, k1, k2, k3⟩, _⟩ := four_cells (HY.out WV (HP.out WV HWV.out).2.2).1
              have HM6 : Hid ((sd (stds h) l.lf).rk = (sd (stds h) l.rt).rk ∧ (sd (stds h) l.lf).tail = (sd (stds h) i).tail ∧ (sd (stds h) l.rt).head = (sd (stds h) i).head) := ⟨m3, m1, m2⟩
              obtain ⟨xw, hxw⟩ : ∃ x, (sd (stds h) l.lf).lk.wt = x := ⟨_, rfl⟩
              obtain ⟨yw, hyw⟩ : ∃ x, (sd (stds h) l.rt).lk.wt = x := ⟨_, rfl⟩
              have HMD : Hid (making (sd (stds h) i) (stds h) = if 140737488355328 < l.wt ∨ 140737488355328 < xw ∨ 140737488355328 < yw ∨ l.wt ≠ xw + yw then 8 else 0) := by
                have e := HLK1.out
                have q := mk_d (x := xw) (y := yw) (s := sd (stds h) i) (all := stds h) (by rw [← e]; exact HDP.out.2.1) (by rw [← e]; exact HNL.out) (by rw [← e, HU1.out]; exact a6) (by rw [← e, HU2.out]; exact decide_eq_true HDP.out.2.2.2.2.2) (by rw [← e]; exact HM6.out.1) (by rw [← e]; exact HM6.out.2.1) (by rw [← e]; exact HM6.out.2.2) (by rw [← e]; exact hxw) (by rw [← e]; exact hyw)
                rw [← e] at q
                exact q
              have HXY : Hid ((sd (stds h) l.lf).lk.wt = xw ∧ (sd (stds h) l.rt).lk.wt = yw) := ⟨hxw, hyw⟩
              clear hxw hyw m1 m2 m3
              go_wp2_with fail
              rename_i K17 aK17
              have KEY17 : ∀ (b17 b18 b19 b20 b21 b22 b23 b24 b25 b26 b27 b28 b29 b30 b31 b32 b33 b34 b35 b36 b37 b38 b39 b40 b41 b42 b43 b44 b45 b46 b47 b48 b49 b50 b51 b52 b53 b54 b55 b56 b57 b58 b59 b60 b61 b62 b63 b64 b65 b66 b67 b68 b69 b70 b71 b72 b73 b74 b75 b76 b77 b78 b79 b80 b81 b82 b83 b84 b85 b86 b87 b88 b89 b90 b91 b92 b93 b94 b95 b96 b97 b98 b99 b100 b101 b102 b103 b104 b105 b106 b107 b108 b109 b110 b111 b112 b113 b114 b115 b116 b117 b118 b119 b120 b121 b122 b123 b124 b125 b126 b127 b128 b129 b130 b131 b132 b133 b134 b135 b136 b137 b138 b139 b140 b141 b142 b143 b144 b145 b146 b147 b148 b149 b150 b151 b152 b153 b154 b155 b156 b157 b158 b159 b160 b161 b162 b163 b164 b165 b166 b167 b168 b169 b170 b171 b172 : Value) (WU : World), Hid (Below W7.heap.size W7 WU) → K17 { tmps := #[(.agg #[.slice v.no h.node.length v.nc, .slice v.uo h.upF.length v.uc, .slice v.ul h.up.length v.ulc, .slice v.wo h.dnF.length v.wc, .slice v.dl h.dn.length v.dlc]), (.slice (some ⟨mb, 0, none⟩) n mc), (.int .i64 (i : Int)), (.pointer (some ⟨z, 0, none⟩)), undef, undef, (.pointer (some ⟨z + 1, 0, none⟩)), (.pointer (some ⟨q, 0, none⟩)), (.int .i64 (h.node.length : Int)), (.int .i64 ((h.up.length : Int) + (h.dn.length : Int))), (.pointer (some ⟨s, 0, none⟩)), (.pointer (some ⟨s2, 0, none⟩)), (.pointer (some ⟨e1, 0, none⟩)), (.pointer (some ⟨e2, 0, none⟩)), (.pointer (some ⟨e3, 0, none⟩)), (.int .u64 (xw : Int)), (.int .u64 (yw : Int)), b17, b18, b19, b20, b21, b22, b23, b24, b25, b26, b27, b28, b29, b30, b31, b32, b33, b34, b35, b36, b37, b38, b39, b40, b41, b42, b43, b44, b45, b46, b47, b48, b49, b50, b51, b52, b53, b54, b55, b56, b57, b58, b59, b60, b61, b62, b63, b64, b65, b66, b67, b68, b69, b70, b71, b72, b73, b74, b75, b76, b77, b78, b79, b80, b81, b82, b83, b84, b85, b86, b87, b88, b89, b90, b91, b92, b93, b94, b95, b96, b97, b98, b99, b100, b101, b102, b103, b104, b105, b106, b107, b108, b109, b110, b111, b112, b113, b114, b115, b116, b117, b118, b119, b120, b121, b122, b123, b124, b125, b126, b127, b128, b129, b130, b131, b132, b133, b134, b135, b136, b137, b138, b139, b140, b141, b142, b143, b144, b145, b146, b147, b148, b149, b150, b151, b152, b153, b154, b155, b156, b157, b158, b159, b160, b161, b162, b163, b164, b165, b166, b167, b168, b169, b170, b171, b172, undef, undef, undef, undef, undef, undef, undef, undef, undef, undef, undef, undef, undef, undef, undef, undef, undef, undef, undef, undef, undef], defers := [] } WU := by
                intro b17 b18 b19 b20 b21 b22 b23 b24 b25 b26 b27 b28 b29 b30 b31 b32 b33 b34 b35 b36 b37 b38 b39 b40 b41 b42 b43 b44 b45 b46 b47 b48 b49 b50 b51 b52 b53 b54 b55 b56 b57 b58 b59 b60 b61 b62 b63 b64 b65 b66 b67 b68 b69 b70 b71 b72 b73 b74 b75 b76 b77 b78 b79 b80 b81 b82 b83 b84 b85 b86 b87 b88 b89 b90 b91 b92 b93 b94 b95 b96 b97 b98 b99 b100 b101 b102 b103 b104 b105 b106 b107 b108 b109 b110 b111 b112 b113 b114 b115 b116 b117 b118 b119 b120 b121 b122 b123 b124 b125 b126 b127 b128 b129 b130 b131 b132 b133 b134 b135 b136 b137 b138 b139 b140 b141 b142 b143 b144 b145 b146 b147 b148 b149 b150 b151 b152 b153 b154 b155 b156 b157 b158 b159 b160 b161 b162 b163 b164 b165 b166 b167 b168 b169 b170 b171 b172 WU HWU
                refine aK17 _ _ ?_
                obtain ⟨⟨k0, k1, k2, k3⟩, _⟩ := four_cells (HY.out WU (HP.out WU (HP7.out WU HWU.out).2.2).2.2).1
                by_cases o1 : 140737488355328 < l.wt
                · have oa : decide ((l.wt : Int) > 140737488355328) = true := by simp; omega
                  have ra : decide (140737488355328 < l.wt) = true := by simp; omega
                  have eR : R = (8, [(4, (i : Int))]) := by rw [HHM.out, HMD.out, if_pos (Or.inl o1)]; rfl
                  obtain ⟨s0, s1, _, _⟩ := cell_two (HP7.out WU HWU.out).2.1
                  obtain ⟨d0, d1, f0, f1⟩ := cell_two (HQ.out WU (HY.out WU (HP.out WU (HP7.out WU HWU.out).2.2).2.2).2).2.1
                  go_wp2
                  obtain ⟨r1, r2⟩ := HEND.out WU (HY.out WU (HP.out WU (HP7.out WU HWU.out).2.2).2.2).2 (8, [(4, (i : Int))]) (some ⟨g2, 0, none⟩) 1 (HP7.out WU HWU.out).1 (fun a e => by cases e; exact HG2.out)
                  exact bodyPost_ret (lk_res r2 rfl) rfl (by rw [eR]; exact r1)
                have oa : decide ((l.wt : Int) > 140737488355328) = false := by simp; omega
                have ra : decide (140737488355328 < l.wt) = false := by simp; omega
                by_cases o2 : 140737488355328 < xw
                · have ob : decide ((xw : Int) > 140737488355328) = true := by simp; omega
                  have rb : decide (140737488355328 < xw) = true := by simp; omega
                  have eR : R = (8, [(4, (i : Int))]) := by rw [HHM.out, HMD.out, if_pos (Or.inr (Or.inl o2))]; rfl
                  obtain ⟨s0, s1, _, _⟩ := cell_two (HP7.out WU HWU.out).2.1
                  obtain ⟨d0, d1, f0, f1⟩ := cell_two (HQ.out WU (HY.out WU (HP.out WU (HP7.out WU HWU.out).2.2).2.2).2).2.1
                  go_wp2
                  obtain ⟨r1, r2⟩ := HEND.out WU (HY.out WU (HP.out WU (HP7.out WU HWU.out).2.2).2.2).2 (8, [(4, (i : Int))]) (some ⟨g2, 0, none⟩) 1 (HP7.out WU HWU.out).1 (fun a e => by cases e; exact HG2.out)
                  exact bodyPost_ret (lk_res r2 rfl) rfl (by rw [eR]; exact r1)
                have ob : decide ((xw : Int) > 140737488355328) = false := by simp; omega
                have rb : decide (140737488355328 < xw) = false := by simp; omega
                by_cases o3 : 140737488355328 < yw
                · have oc : decide ((yw : Int) > 140737488355328) = true := by simp; omega
                  have rc : decide (140737488355328 < yw) = true := by simp; omega
                  have eR : R = (8, [(4, (i : Int))]) := by rw [HHM.out, HMD.out, if_pos (Or.inr (Or.inr (Or.inl o3)))]; rfl
                  obtain ⟨s0, s1, _, _⟩ := cell_two (HP7.out WU HWU.out).2.1
                  obtain ⟨d0, d1, f0, f1⟩ := cell_two (HQ.out WU (HY.out WU (HP.out WU (HP7.out WU HWU.out).2.2).2.2).2).2.1
                  go_wp2
                  obtain ⟨r1, r2⟩ := HEND.out WU (HY.out WU (HP.out WU (HP7.out WU HWU.out).2.2).2.2).2 (8, [(4, (i : Int))]) (some ⟨g2, 0, none⟩) 1 (HP7.out WU HWU.out).1 (fun a e => by cases e; exact HG2.out)
                  exact bodyPost_ret (lk_res r2 rfl) rfl (by rw [eR]; exact r1)
                have oc : decide ((yw : Int) > 140737488355328) = false := by simp; omega
                have rc : decide (140737488355328 < yw) = false := by simp; omega
                have ws : IntKind.u64.wrap ((xw : Int) + (yw : Int)) = (xw : Int) + (yw : Int) := by rw [IntKind.wrap_u64]; omega
                by_cases o4 : l.wt = xw + yw
                · have od : (((xw : Int) + (yw : Int)) != (l.wt : Int)) = false := by simp; omega
                  have oe : (((xw : Int) + (yw : Int)) == (l.wt : Int)) = true := by simp; omega
                  have HO4 : Hid (¬(140737488355328 < l.wt ∨ 140737488355328 < xw ∨ 140737488355328 < yw ∨ l.wt ≠ xw + yw)) := by show ¬ _; omega
                  clear o4
                  have eR : R = (0, []) := by rw [HHM.out, HMD.out, if_neg HO4.out]; rfl
                  obtain ⟨s0, s1, _, _⟩ := cell_two (HP7.out WU HWU.out).2.1
                  obtain ⟨d0, d1, f0, f1⟩ := cell_two (HQ.out WU (HY.out WU (HP.out WU (HP7.out WU HWU.out).2.2).2.2).2).2.1
                  go_wp2
                  obtain ⟨r1, r2⟩ := HEND.out WU (HY.out WU (HP.out WU (HP7.out WU HWU.out).2.2).2.2).2 (0, []) none 0 (pl_nil _) (fun a e => by cases e)
                  exact bodyPost_ret (lk_res r2 rfl) rfl (by rw [eR]; exact r1)
                · have od : (((xw : Int) + (yw : Int)) != (l.wt : Int)) = true := by simp; omega
                  have oe : (((xw : Int) + (yw : Int)) == (l.wt : Int)) = false := by simp; omega
                  have eR : R = (8, [(4, (i : Int))]) := by rw [HHM.out, HMD.out, if_pos (Or.inr (Or.inr (Or.inr o4)))]; rfl
                  obtain ⟨s0, s1, _, _⟩ := cell_two (HP7.out WU HWU.out).2.1
                  obtain ⟨d0, d1, f0, f1⟩ := cell_two (HQ.out WU (HY.out WU (HP.out WU (HP7.out WU HWU.out).2.2).2.2).2).2.1
                  go_wp2
                  obtain ⟨r1, r2⟩ := HEND.out WU (HY.out WU (HP.out WU (HP7.out WU HWU.out).2.2).2.2).2 (8, [(4, (i : Int))]) (some ⟨g2, 0, none⟩) 1 (HP7.out WU HWU.out).1 (fun a e => by cases e; exact HG2.out)
                  exact bodyPost_ret (lk_res r2 rfl) rfl (by rw [eR]; exact r1)
              have HSV : Hid (∀ wx, Below WV.heap.size WV wx → (fun w' => w'.cell? ⟨z, 0, none⟩ = some (.slice v.no h.node.length v.nc) ∧ w'.cell? ⟨z, 1, none⟩ = some (.slice v.uo h.upF.length v.uc) ∧ w'.cell? ⟨z, 2, none⟩ = some (.slice v.ul h.up.length v.ulc) ∧ w'.cell? ⟨z, 3, none⟩ = some (.slice v.wo h.dnF.length v.wc) ∧ w'.cell? ⟨z, 4, none⟩ = some (.slice v.dl h.dn.length v.dlc) ∧ w'.cell? ⟨q, 2, none⟩ = some (.int .u32 (l.lf : Int)) ∧ w'.cell? ⟨q, 3, none⟩ = some (.int .u32 (l.rt : Int)) ∧ Hid (Below WV.heap.size WV w')) wx ∧ Below W7.heap.size W7 wx) := fun wx hx => by
                have q := btrH' HV.out.2.2.2 hx
                obtain ⟨c0, c1, c2, c3, c4⟩ := (HQ.out wx (HY.out wx (HP.out wx (HP7.out wx q).2.2).2.2).2).1
                obtain ⟨⟨_, _, k2, k3⟩, _⟩ := four_cells (HY.out wx (HP.out wx (HP7.out wx q).2.2).2.2).1
                exact ⟨⟨c0, c1, c2, c3, c4, k2, k3, hx⟩, q⟩
              have HLW : Hid (∀ j, j < (stds h).length → ∀ wx, (fun w' => w'.cell? ⟨z, 0, none⟩ = some (.slice v.no h.node.length v.nc) ∧ w'.cell? ⟨z, 1, none⟩ = some (.slice v.uo h.upF.length v.uc) ∧ w'.cell? ⟨z, 2, none⟩ = some (.slice v.ul h.up.length v.ulc) ∧ w'.cell? ⟨z, 3, none⟩ = some (.slice v.wo h.dnF.length v.wc) ∧ w'.cell? ⟨z, 4, none⟩ = some (.slice v.dl h.dn.length v.dlc) ∧ w'.cell? ⟨q, 2, none⟩ = some (.int .u32 (l.lf : Int)) ∧ w'.cell? ⟨q, 3, none⟩ = some (.int .u32 (l.rt : Int)) ∧ Hid (Below WV.heap.size WV w')) wx → Calls Tryz.prog 27 #[(.agg #[.slice v.no h.node.length v.nc, .slice v.uo h.upF.length v.uc, .slice v.ul h.up.length v.ulc, .slice v.wo h.dnF.length v.wc, .slice v.dl h.dn.length v.dlc]), .int .i64 (j : Int)] wx fun e w' => e = .returned (.agg #[.int .u32 ((sd (stds h) j).lk.hd : Int), .int .u64 ((sd (stds h) j).lk.wt : Int), .int .u32 ((sd (stds h) j).lk.lf : Int), .int .u32 ((sd (stds h) j).lk.rt : Int)]) ∧ Grows wx w' ∧ (fun w' => w'.cell? ⟨z, 0, none⟩ = some (.slice v.no h.node.length v.nc) ∧ w'.cell? ⟨z, 1, none⟩ = some (.slice v.uo h.upF.length v.uc) ∧ w'.cell? ⟨z, 2, none⟩ = some (.slice v.ul h.up.length v.ulc) ∧ w'.cell? ⟨z, 3, none⟩ = some (.slice v.wo h.dnF.length v.wc) ∧ w'.cell? ⟨z, 4, none⟩ = some (.slice v.dl h.dn.length v.dlc) ∧ w'.cell? ⟨q, 2, none⟩ = some (.int .u32 (l.lf : Int)) ∧ w'.cell? ⟨q, 3, none⟩ = some (.int .u32 (l.rt : Int)) ∧ Hid (Below WV.heap.size WV w')) w') := fun j hj wx hS => by
                have hx : Below WV.heap.size WV wx := hS.2.2.2.2.2.2.2.out
                have q := HLK.out wx (HY.out wx (HP.out wx (HP7.out wx (HSV.out wx hx).2).2.2).2.2).2 j hj
                rw [HLKK.out j hj] at q
                refine q.mono ?_
                rintro e w' ⟨rfl, hb⟩
                exact ⟨rfl, hb, (HSV.out w' (btrH' hx hb)).1⟩
              have HL1' := HLW.out l.lf HDP.out.2.2.1
              have HL2' := HLW.out l.rt HDP.out.2.2.2.1
              rw [HXY.out.1] at HL1'
              rw [HXY.out.2] at HL2'
              have HL1 : Hid (type_of% HL1') := HL1'
              have HL2 : Hid (type_of% HL2') := HL2'
              have fw1 := field_wt ((sd (stds h) l.lf).lk.hd : Int) (xw : Int) ((sd (stds h) l.lf).lk.lf : Int) ((sd (stds h) l.lf).lk.rt : Int)
              have fw2 := field_wt ((sd (stds h) l.rt).lk.hd : Int) (yw : Int) ((sd (stds h) l.rt).lk.lf : Int) ((sd (stds h) l.rt).lk.rt : Int)
              clear HL1' HL2' c0 c1 c2 c3 c4 k0 k1 k2 k3 x0 x1 x2 z0 z1 z2 t0 t1 t2
              refine wp_region_M (S := (fun w' => w'.cell? ⟨z, 0, none⟩ = some (.slice v.no h.node.length v.nc) ∧ w'.cell? ⟨z, 1, none⟩ = some (.slice v.uo h.upF.length v.uc) ∧ w'.cell? ⟨z, 2, none⟩ = some (.slice v.ul h.up.length v.ulc) ∧ w'.cell? ⟨z, 3, none⟩ = some (.slice v.wo h.dnF.length v.wc) ∧ w'.cell? ⟨z, 4, none⟩ = some (.slice v.dl h.dn.length v.dlc) ∧ w'.cell? ⟨q, 2, none⟩ = some (.int .u32 (l.lf : Int)) ∧ w'.cell? ⟨q, 3, none⟩ = some (.int .u32 (l.rt : Int)) ∧ Hid (Below WV.heap.size WV w'))) (by kernel_rfl) (HSV.out _ ((Below.refl _ _).drew)).1 ?_
              refine wpAnyM_take (i := 0) (oi := ⟨some 161, .load 25 (.tmp 3), 25, "ref.go:99", #[], none⟩) (v := ?vb0) rfl (by kernel_rfl) (by kernel_rfl) (by kernel_rfl) (fun _ _ _ h => h) (YieldsM.of_if (Or.inl ⟨by rfl, ?hb0⟩)) ?rb0
              case hb0 => ((intro wz hSw; (try dsimp only at hSw); go_simp); try (with_reducible rfl))
              try simp only [Act.put, List.setIfInBounds_toArray, List.set_cons_zero, List.set_cons_succ]
              refine wpAnyM_take (i := 1) (oi := ⟨some 162, .fieldAddr 65 (.tmp 7) 2, 0, "ref.go:99", #[], none⟩) (v := ?vb1) rfl (by kernel_rfl) (by kernel_rfl) (by kernel_rfl) (fun _ _ _ h => h) (YieldsM.of_if (Or.inl ⟨by rfl, ?hb1⟩)) ?rb1
              case hb1 => ((intro wz hSw; (try dsimp only at hSw); go_simp); try (with_reducible rfl))
              try simp only [Act.put, List.setIfInBounds_toArray, List.set_cons_zero, List.set_cons_succ]
              refine wpAnyM_take (i := 2) (oi := ⟨some 163, .load 62 (.tmp 162), 62, "ref.go:99", #[⟨1, .data⟩], none⟩) (v := ?vb2) rfl (by kernel_rfl) (by kernel_rfl) (by kernel_rfl) (fun _ _ _ h => h) (YieldsM.of_if (Or.inl ⟨by rfl, ?hb2⟩)) ?rb2
              case hb2 => ((intro wz hSw; (try dsimp only at hSw); go_simp); try (with_reducible rfl))
              try simp only [Act.put, List.setIfInBounds_toArray, List.set_cons_zero, List.set_cons_succ]
              refine wpAnyM_take (i := 3) (oi := ⟨some 164, .convert 62 3 (.tmp 163), 3, "ref.go:99", #[⟨2, .data⟩], none⟩) (v := ?vb3) rfl (by kernel_rfl) (by kernel_rfl) (by kernel_rfl) (fun _ _ _ h => h) (YieldsM.of_if (Or.inl ⟨by rfl, ?hb3⟩)) ?rb3
              case hb3 => ((intro wz hSw; (try dsimp only at hSw); go_simp); try (with_reducible rfl))
              try simp only [Act.put, List.setIfInBounds_toArray, List.set_cons_zero, List.set_cons_succ]
              refine wpAnyM_take (i := 4) (oi := ⟨some 165, .call { callee := .value (.func 27), args := #[.tmp 161, .tmp 164], argTypes := #[25, 3] }, 65, "ref.go:99", #[⟨0, .data⟩, ⟨3, .data⟩], none⟩) (v := (.agg #[.int .u32 ((sd (stds h) l.lf).lk.hd : Int), .int .u64 (xw : Int), .int .u32 ((sd (stds h) l.lf).lk.lf : Int), .int .u32 ((sd (stds h) l.lf).lk.rt : Int)])) rfl (by kernel_rfl) (by kernel_rfl) (by kernel_rfl) (fun _ _ _ h => h) (YieldsM.of_call (f := 27) (by rfl) (fun _ _ => by kernel_rfl) (HL1.out)) ?_
              try simp only [Act.put, List.setIfInBounds_toArray, List.set_cons_zero, List.set_cons_succ]
              refine wpAnyM_take (i := 5) (oi := ⟨some 166, .field 65 (.tmp 165) 1, 45, "ref.go:99", #[⟨4, .data⟩], none⟩) (v := ?vb5) rfl (by kernel_rfl) (by kernel_rfl) (by kernel_rfl) (fun _ _ _ h => h) (YieldsM.of_if (Or.inl ⟨by rfl, ?hb5⟩)) ?rb5
              case hb5 => ((intro wz hSw; (try dsimp only at hSw); go_simp); try (with_reducible rfl))
              try simp only [Act.put, List.setIfInBounds_toArray, List.set_cons_zero, List.set_cons_succ]
              refine wpAnyM_take (i := 6) (oi := ⟨some 167, .load 25 (.tmp 3), 25, "ref.go:99", #[], none⟩) (v := ?vb6) rfl (by kernel_rfl) (by kernel_rfl) (by kernel_rfl) (fun _ _ _ h => h) (YieldsM.of_if (Or.inl ⟨by rfl, ?hb6⟩)) ?rb6
              case hb6 => ((intro wz hSw; (try dsimp only at hSw); go_simp); try (with_reducible rfl))
              try simp only [Act.put, List.setIfInBounds_toArray, List.set_cons_zero, List.set_cons_succ]
              refine wpAnyM_take (i := 7) (oi := ⟨some 168, .fieldAddr 65 (.tmp 7) 3, 0, "ref.go:99", #[], none⟩) (v := ?vb7) rfl (by kernel_rfl) (by kernel_rfl) (by kernel_rfl) (fun _ _ _ h => h) (YieldsM.of_if (Or.inl ⟨by rfl, ?hb7⟩)) ?rb7
              case hb7 => ((intro wz hSw; (try dsimp only at hSw); go_simp); try (with_reducible rfl))
              try simp only [Act.put, List.setIfInBounds_toArray, List.set_cons_zero, List.set_cons_succ]
              refine wpAnyM_take (i := 8) (oi := ⟨some 169, .load 62 (.tmp 168), 62, "ref.go:99", #[⟨7, .data⟩], none⟩) (v := ?vb8) rfl (by kernel_rfl) (by kernel_rfl) (by kernel_rfl) (fun _ _ _ h => h) (YieldsM.of_if (Or.inl ⟨by rfl, ?hb8⟩)) ?rb8
              case hb8 => ((intro wz hSw; (try dsimp only at hSw); go_simp); try (with_reducible rfl))
              try simp only [Act.put, List.setIfInBounds_toArray, List.set_cons_zero, List.set_cons_succ]
              refine wpAnyM_take (i := 9) (oi := ⟨some 170, .convert 62 3 (.tmp 169), 3, "ref.go:99", #[⟨8, .data⟩], none⟩) (v := ?vb9) rfl (by kernel_rfl) (by kernel_rfl) (by kernel_rfl) (fun _ _ _ h => h) (YieldsM.of_if (Or.inl ⟨by rfl, ?hb9⟩)) ?rb9
              case hb9 => ((intro wz hSw; (try dsimp only at hSw); go_simp); try (with_reducible rfl))
              try simp only [Act.put, List.setIfInBounds_toArray, List.set_cons_zero, List.set_cons_succ]
              refine wpAnyM_take (i := 10) (oi := ⟨some 171, .call { callee := .value (.func 27), args := #[.tmp 167, .tmp 170], argTypes := #[25, 3] }, 65, "ref.go:99", #[⟨6, .data⟩, ⟨9, .data⟩, ⟨4, .chain⟩], none⟩) (v := (.agg #[.int .u32 ((sd (stds h) l.rt).lk.hd : Int), .int .u64 (yw : Int), .int .u32 ((sd (stds h) l.rt).lk.lf : Int), .int .u32 ((sd (stds h) l.rt).lk.rt : Int)])) rfl (by kernel_rfl) (by kernel_rfl) (by kernel_rfl) (fun _ _ _ h => h) (YieldsM.of_call (f := 27) (by rfl) (fun _ _ => by kernel_rfl) (HL2.out)) ?_
              try simp only [Act.put, List.setIfInBounds_toArray, List.set_cons_zero, List.set_cons_succ]
              refine wpAnyM_take (i := 11) (oi := ⟨some 172, .field 65 (.tmp 171) 1, 45, "ref.go:99", #[⟨10, .data⟩, ⟨12, .gcOnly .lateStores⟩], none⟩) (v := ?vb11) rfl (by kernel_rfl) (by kernel_rfl) (by kernel_rfl) (fun _ _ _ h => h) (YieldsM.of_if (Or.inl ⟨by rfl, ?hb11⟩)) ?rb11
              case hb11 => ((intro wz hSw; (try dsimp only at hSw); go_simp); try (with_reducible rfl))
              try simp only [Act.put, List.setIfInBounds_toArray, List.set_cons_zero, List.set_cons_succ]
              refine wpAnyM_take (i := 12) (oi := ⟨some 15, .assign (.tmp 166), 45, "ref.go:99", #[⟨5, .data⟩, ⟨10, .chain⟩, ⟨0, .phase⟩, ⟨1, .phase⟩, ⟨2, .phase⟩, ⟨3, .phase⟩, ⟨4, .phase⟩, ⟨5, .phase⟩, ⟨6, .textOnly .lateStores⟩, ⟨7, .textOnly .lateStores⟩, ⟨8, .textOnly .lateStores⟩, ⟨9, .textOnly .lateStores⟩, ⟨10, .textOnly .lateStoresUnsure⟩, ⟨11, .textOnly .lateStores⟩], none⟩) (v := ?vb12) rfl (by kernel_rfl) (by kernel_rfl) (by kernel_rfl) (fun _ _ _ h => h) (YieldsM.of_if (Or.inl ⟨by rfl, ?hb12⟩)) ?rb12
              case hb12 => ((intro wz hSw; (try dsimp only at hSw); go_simp); try (with_reducible rfl))
              try simp only [Act.put, List.setIfInBounds_toArray, List.set_cons_zero, List.set_cons_succ]
              refine wpAnyM_take (i := 13) (oi := ⟨some 16, .assign (.tmp 172), 45, "ref.go:99", #[⟨11, .data⟩, ⟨12, .chain⟩, ⟨0, .phase⟩, ⟨1, .phase⟩, ⟨2, .phase⟩, ⟨3, .phase⟩, ⟨4, .phase⟩, ⟨5, .phase⟩, ⟨6, .phase⟩, ⟨7, .phase⟩, ⟨8, .phase⟩, ⟨9, .phase⟩, ⟨10, .phase⟩, ⟨11, .phase⟩, ⟨12, .phase⟩], none⟩) (v := ?vb13) rfl (by kernel_rfl) (by kernel_rfl) (by kernel_rfl) (fun _ _ _ h => h) (YieldsM.of_if (Or.inl ⟨by rfl, ?hb13⟩)) ?rb13
              case hb13 => ((intro wz hSw; (try dsimp only at hSw); go_simp); try (with_reducible rfl))
              try simp only [Act.put, List.setIfInBounds_toArray, List.set_cons_zero, List.set_cons_succ]
              refine wpAnyM_done (by kernel_rfl) ?_ _
              intro v5 hg5 hS5
              have q5 : Below WV.heap.size WV v5 := btrH' (Below.refl _ _).drew hg5
              exact KEY17 _ _ _ _ _ _ _ _ _ _ _ _ _ _ _ _ _ _ _ _ _ _ _ _ _ _ _ _ _ _ _ _ _ _ _ _ _ _ _ _ _ _ _ _ _ _ _ _ _ _ _ _ _ _ _ _ _ _ _ _ _ _ _ _ _ _ _ _ _ _ _ _ _ _ _ _ _ _ _ _ _ _ _ _ _ _ _ _ _ _ _ _ _ _ _ _ _ _ _ _ _ _ _ _ _ _ _ _ _ _ _ _ _ _ _ _ _ _ _ _ _ _ _ _ _ _ _ _ _ _ _ _ _ _ _ _ _ _ _ _ _ _ _ _ _ _ _ _ _ _ _ _ _ _ _ _ v5 (HSV.out v5 q5).2
            · have u1 : (((sd (stds h) l.lf).tail : Int) == ((sd (stds h) i).tail : Int)) = true := by simp; omega
              have v1 : (((sd (stds h) l.lf).tail : Int) != ((sd (stds h) i).tail : Int)) = false := by simp; omega
              have u2 : (((sd (stds h) l.rt).head : Int) == ((sd (stds h) i).head : Int)) = true := by simp; omega
              have v2 : (((sd (stds h) l.rt).head : Int) != ((sd (stds h) i).head : Int)) = false := by simp; omega
              have u3 : (((sd (stds h) l.lf).rk : Int) == ((sd (stds h) l.rt).rk : Int)) = false := by simp; omega
              have v3 : (((sd (stds h) l.lf).rk : Int) != ((sd (stds h) l.rt).rk : Int)) = true := by simp; omega
              have eR : R = (14, [(4, (i : Int))]) := by rw [HHM.out, mk_c (s := sd (stds h) i) (all := stds h) (by rw [← HLK1.out]; exact HDP.out.2.1) (by rw [← HLK1.out]; exact HNL.out) (by rw [← HLK1.out]; exact (Or.inl m3))]; rfl
              obtain ⟨s0, s1, _, _⟩ := cell_two (HP.out WV HWV.out).2.1
              obtain ⟨d0, d1, f0, f1⟩ := cell_two (HQ.out WV (HY.out WV (HP.out WV HWV.out).2.2).2).2.1
              go_wp2
              obtain ⟨r1, r2⟩ := HEND.out WV (HY.out WV (HP.out WV HWV.out).2.2).2 (14, [(4, (i : Int))]) (some ⟨g, 0, none⟩) 1 (HP.out WV HWV.out).1 (fun a e => by cases e; exact HG.out)
              exact bodyPost_ret (lk_res r2 rfl) rfl (by rw [eR]; exact r1)
          · have u1 : (((sd (stds h) l.lf).tail : Int) == ((sd (stds h) i).tail : Int)) = true := by simp; omega
            have v1 : (((sd (stds h) l.lf).tail : Int) != ((sd (stds h) i).tail : Int)) = false := by simp; omega
            have u2 : (((sd (stds h) l.rt).head : Int) == ((sd (stds h) i).head : Int)) = false := by simp; omega
            have v2 : (((sd (stds h) l.rt).head : Int) != ((sd (stds h) i).head : Int)) = true := by simp; omega
            have eR : R = (14, [(4, (i : Int))]) := by rw [HHM.out, mk_c (s := sd (stds h) i) (all := stds h) (by rw [← HLK1.out]; exact HDP.out.2.1) (by rw [← HLK1.out]; exact HNL.out) (by rw [← HLK1.out]; exact (Or.inr (Or.inr m2)))]; rfl
            obtain ⟨s0, s1, _, _⟩ := cell_two (HP.out WV HWV.out).2.1
            obtain ⟨d0, d1, f0, f1⟩ := cell_two (HQ.out WV (HY.out WV (HP.out WV HWV.out).2.2).2).2.1
            go_wp2
            obtain ⟨r1, r2⟩ := HEND.out WV (HY.out WV (HP.out WV HWV.out).2.2).2 (14, [(4, (i : Int))]) (some ⟨g, 0, none⟩) 1 (HP.out WV HWV.out).1 (fun a e => by cases e; exact HG.out)
            exact bodyPost_ret (lk_res r2 rfl) rfl (by rw [eR]; exact r1)
        · have u1 : (((sd (stds h) l.lf).tail : Int) == ((sd (stds h) i).tail : Int)) = false := by simp; omega
          have v1 : (((sd (stds h) l.lf).tail : Int) != ((sd (stds h) i).tail : Int)) = true := by simp; omega
          have eR : R = (14, [(4, (i : Int))]) := by rw [HHM.out, mk_c (s := sd (stds h) i) (all := stds h) (by rw [← HLK1.out]; exact HDP.out.2.1) (by rw [← HLK1.out]; exact HNL.out) (by rw [← HLK1.out]; exact (Or.inr (Or.inl m1)))]; rfl
          obtain ⟨s0, s1, _, _⟩ := cell_two (HP.out WV HWV.out).2.1
          obtain ⟨d0, d1, f0, f1⟩ := cell_two (HQ.out WV (HY.out WV (HP.out WV HWV.out).2.2).2).2.1
          go_wp2
          obtain ⟨r1, r2⟩ := HEND.out WV (HY.out WV (HP.out WV HWV.out).2.2).2 (14, [(4, (i : Int))]) (some ⟨g, 0, none⟩) 1 (HP.out WV HWV.out).1 (fun a e => by cases e; exact HG.out)
          exact bodyPost_ret (lk_res r2 rfl) rfl (by rw [eR]; exact r1)
      have HSS : Hid (∀ wx, Below W7.heap.size W7 wx → (fun w' => w'.cell? ⟨z, 0, none⟩ = some (.slice v.no h.node.length v.nc) ∧ w'.cell? ⟨z, 1, none⟩ = some (.slice v.uo h.upF.length v.uc) ∧ w'.cell? ⟨z, 2, none⟩ = some (.slice v.ul h.up.length v.ulc) ∧ w'.cell? ⟨z, 3, none⟩ = some (.slice v.wo h.dnF.length v.wc) ∧ w'.cell? ⟨z, 4, none⟩ = some (.slice v.dl h.dn.length v.dlc) ∧ w'.cell? ⟨q, 2, none⟩ = some (.int .u32 (l.lf : Int)) ∧ w'.cell? ⟨q, 3, none⟩ = some (.int .u32 (l.rt : Int)) ∧ Hid (Below W7.heap.size W7 w')) wx) := fun wx hx => by
        obtain ⟨c0, c1, c2, c3, c4⟩ := (HQ.out wx (HY.out wx (HP.out wx (HP7.out wx hx).2.2).2.2).2).1
        obtain ⟨⟨_, _, k2, k3⟩, _⟩ := four_cells (HY.out wx (HP.out wx (HP7.out wx hx).2.2).2.2).1
        exact ⟨c0, c1, c2, c3, c4, k2, k3, hx⟩
      have HEW : Hid (∀ j, j < (stds h).length → ∀ wx, (fun w' => w'.cell? ⟨z, 0, none⟩ = some (.slice v.no h.node.length v.nc) ∧ w'.cell? ⟨z, 1, none⟩ = some (.slice v.uo h.upF.length v.uc) ∧ w'.cell? ⟨z, 2, none⟩ = some (.slice v.ul h.up.length v.ulc) ∧ w'.cell? ⟨z, 3, none⟩ = some (.slice v.wo h.dnF.length v.wc) ∧ w'.cell? ⟨z, 4, none⟩ = some (.slice v.dl h.dn.length v.dlc) ∧ w'.cell? ⟨q, 2, none⟩ = some (.int .u32 (l.lf : Int)) ∧ w'.cell? ⟨q, 3, none⟩ = some (.int .u32 (l.rt : Int)) ∧ Hid (Below W7.heap.size W7 w')) wx → Calls Tryz.prog 52 #[(.agg #[.slice v.no h.node.length v.nc, .slice v.uo h.upF.length v.uc, .slice v.ul h.up.length v.ulc, .slice v.wo h.dnF.length v.wc, .slice v.dl h.dn.length v.dlc]), .slice (some ⟨mb, 0, none⟩) n mc, .int .i64 (j : Int)] wx fun e w' => e = .returned (.agg #[.int .i64 ((sd (stds h) j).tail : Int), .int .i64 ((sd (stds h) j).head : Int), .int .i64 ((sd (stds h) j).rk : Int)]) ∧ Grows wx w' ∧ (fun w' => w'.cell? ⟨z, 0, none⟩ = some (.slice v.no h.node.length v.nc) ∧ w'.cell? ⟨z, 1, none⟩ = some (.slice v.uo h.upF.length v.uc) ∧ w'.cell? ⟨z, 2, none⟩ = some (.slice v.ul h.up.length v.ulc) ∧ w'.cell? ⟨z, 3, none⟩ = some (.slice v.wo h.dnF.length v.wc) ∧ w'.cell? ⟨z, 4, none⟩ = some (.slice v.dl h.dn.length v.dlc) ∧ w'.cell? ⟨q, 2, none⟩ = some (.int .u32 (l.lf : Int)) ∧ w'.cell? ⟨q, 3, none⟩ = some (.int .u32 (l.rt : Int)) ∧ Hid (Below W7.heap.size W7 w')) w') := fun j hj wx hS => by
        have hx : Below W7.heap.size W7 wx := hS.2.2.2.2.2.2.2.out
        refine (HEO.out wx (HY.out wx (HP.out wx (HP7.out wx hx).2.2).2.2).2 j (by rw [← HLN.out.1]; exact hj)).mono ?_
        rintro e w' ⟨rfl, hb⟩
        exact ⟨rfl, hb, HSS.out w' (btrH' hx hb)⟩
      have HE1 := HEW.out i (by rw [HLN.out.1]; exact hi)
      have HE2 := HEW.out l.lf HDP.out.2.2.1
      have HE3 := HEW.out l.rt HDP.out.2.2.2.1
      have HEH1 : Hid (type_of% HE1) := HE1
      have HEH2 : Hid (type_of% HE2) := HE2
      have HEH3 : Hid (type_of% HE3) := HE3
      clear HE1 HE2 HE3 c0 c1 c2 c3 c4 k0 k1 k2 k3
      refine wp_region_M (S := (fun w' => w'.cell? ⟨z, 0, none⟩ = some (.slice v.no h.node.length v.nc) ∧ w'.cell? ⟨z, 1, none⟩ = some (.slice v.uo h.upF.length v.uc) ∧ w'.cell? ⟨z, 2, none⟩ = some (.slice v.ul h.up.length v.ulc) ∧ w'.cell? ⟨z, 3, none⟩ = some (.slice v.wo h.dnF.length v.wc) ∧ w'.cell? ⟨z, 4, none⟩ = some (.slice v.dl h.dn.length v.dlc) ∧ w'.cell? ⟨q, 2, none⟩ = some (.int .u32 (l.lf : Int)) ∧ w'.cell? ⟨q, 3, none⟩ = some (.int .u32 (l.rt : Int)) ∧ Hid (Below W7.heap.size W7 w'))) (by kernel_rfl) (HSS.out _ (bdrew B8.out 1)) ?_
      refine wpAnyM_take (i := 0) (oi := ⟨some 125, .load 25 (.tmp 3), 25, "ref.go:95", #[], none⟩) (v := ?va0) rfl (by kernel_rfl) (by kernel_rfl) (by kernel_rfl) (fun _ _ _ h => h) (YieldsM.of_if (Or.inl ⟨by rfl, ?ha0⟩)) ?ra0
      case ha0 => ((intro wz hSw; (try dsimp only at hSw); go_simp); try (with_reducible rfl))
      try simp only [Act.put, List.setIfInBounds_toArray, List.set_cons_zero, List.set_cons_succ]
      refine wpAnyM_take (i := 1) (oi := ⟨some 126, .move (.tmp 1), 28, "ref.go:95", #[], none⟩) (v := ?va1) rfl (by kernel_rfl) (by kernel_rfl) (by kernel_rfl) (fun _ _ _ h => h) (YieldsM.of_if (Or.inl ⟨by rfl, ?ha1⟩)) ?ra1
      case ha1 => ((intro wz hSw; (try dsimp only at hSw); go_simp); try (with_reducible rfl))
      try simp only [Act.put, List.setIfInBounds_toArray, List.set_cons_zero, List.set_cons_succ]
      refine wpAnyM_take (i := 2) (oi := ⟨some 127, .move (.tmp 2), 3, "ref.go:95", #[], none⟩) (v := ?va2) rfl (by kernel_rfl) (by kernel_rfl) (by kernel_rfl) (fun _ _ _ h => h) (YieldsM.of_if (Or.inl ⟨by rfl, ?ha2⟩)) ?ra2
      case ha2 => ((intro wz hSw; (try dsimp only at hSw); go_simp); try (with_reducible rfl))
      try simp only [Act.put, List.setIfInBounds_toArray, List.set_cons_zero, List.set_cons_succ]
      refine wpAnyM_take (i := 3) (oi := ⟨some 128, .call { callee := .value (.func 52), args := #[.tmp 125, .tmp 126, .tmp 127], argTypes := #[25, 28, 3] }, 59, "ref.go:95", #[⟨0, .data⟩, ⟨1, .data⟩, ⟨2, .data⟩], none⟩) (v := (.agg #[.int .i64 ((sd (stds h) i).tail : Int), .int .i64 ((sd (stds h) i).head : Int), .int .i64 ((sd (stds h) i).rk : Int)])) rfl (by kernel_rfl) (by kernel_rfl) (by kernel_rfl) (fun _ _ _ h => h) (YieldsM.of_call (f := 52) (by rfl) (fun _ _ => by kernel_rfl) (HEH1.out)) ?_
      try simp only [Act.put, List.setIfInBounds_toArray, List.set_cons_zero, List.set_cons_succ]
      refine wpAnyM_take (i := 4) (oi := ⟨some 129, .load 25 (.tmp 3), 25, "ref.go:95", #[], none⟩) (v := ?va4) rfl (by kernel_rfl) (by kernel_rfl) (by kernel_rfl) (fun _ _ _ h => h) (YieldsM.of_if (Or.inl ⟨by rfl, ?ha4⟩)) ?ra4
      case ha4 => ((intro wz hSw; (try dsimp only at hSw); go_simp); try (with_reducible rfl))
      try simp only [Act.put, List.setIfInBounds_toArray, List.set_cons_zero, List.set_cons_succ]
      refine wpAnyM_take (i := 5) (oi := ⟨some 130, .move (.tmp 1), 28, "ref.go:95", #[], none⟩) (v := ?va5) rfl (by kernel_rfl) (by kernel_rfl) (by kernel_rfl) (fun _ _ _ h => h) (YieldsM.of_if (Or.inl ⟨by rfl, ?ha5⟩)) ?ra5
      case ha5 => ((intro wz hSw; (try dsimp only at hSw); go_simp); try (with_reducible rfl))
      try simp only [Act.put, List.setIfInBounds_toArray, List.set_cons_zero, List.set_cons_succ]
      refine wpAnyM_take (i := 6) (oi := ⟨some 131, .fieldAddr 65 (.tmp 7) 2, 0, "ref.go:95", #[], none⟩) (v := ?va6) rfl (by kernel_rfl) (by kernel_rfl) (by kernel_rfl) (fun _ _ _ h => h) (YieldsM.of_if (Or.inl ⟨by rfl, ?ha6⟩)) ?ra6
      case ha6 => ((intro wz hSw; (try dsimp only at hSw); go_simp); try (with_reducible rfl))
      try simp only [Act.put, List.setIfInBounds_toArray, List.set_cons_zero, List.set_cons_succ]
      refine wpAnyM_take (i := 7) (oi := ⟨some 132, .load 62 (.tmp 131), 62, "ref.go:95", #[⟨6, .data⟩], none⟩) (v := ?va7) rfl (by kernel_rfl) (by kernel_rfl) (by kernel_rfl) (fun _ _ _ h => h) (YieldsM.of_if (Or.inl ⟨by rfl, ?ha7⟩)) ?ra7
      case ha7 => ((intro wz hSw; (try dsimp only at hSw); go_simp); try (with_reducible rfl))
      try simp only [Act.put, List.setIfInBounds_toArray, List.set_cons_zero, List.set_cons_succ]
      refine wpAnyM_take (i := 8) (oi := ⟨some 133, .convert 62 3 (.tmp 132), 3, "ref.go:95", #[⟨7, .data⟩], none⟩) (v := ?va8) rfl (by kernel_rfl) (by kernel_rfl) (by kernel_rfl) (fun _ _ _ h => h) (YieldsM.of_if (Or.inl ⟨by rfl, ?ha8⟩)) ?ra8
      case ha8 => ((intro wz hSw; (try dsimp only at hSw); go_simp); try (with_reducible rfl))
      try simp only [Act.put, List.setIfInBounds_toArray, List.set_cons_zero, List.set_cons_succ]
      refine wpAnyM_take (i := 9) (oi := ⟨some 134, .call { callee := .value (.func 52), args := #[.tmp 129, .tmp 130, .tmp 133], argTypes := #[25, 28, 3] }, 59, "ref.go:95", #[⟨4, .data⟩, ⟨5, .data⟩, ⟨8, .data⟩, ⟨3, .chain⟩], none⟩) (v := (.agg #[.int .i64 ((sd (stds h) l.lf).tail : Int), .int .i64 ((sd (stds h) l.lf).head : Int), .int .i64 ((sd (stds h) l.lf).rk : Int)])) rfl (by kernel_rfl) (by kernel_rfl) (by kernel_rfl) (fun _ _ _ h => h) (YieldsM.of_call (f := 52) (by rfl) (fun _ _ => by kernel_rfl) (HEH2.out)) ?_
      try simp only [Act.put, List.setIfInBounds_toArray, List.set_cons_zero, List.set_cons_succ]
      refine wpAnyM_take (i := 10) (oi := ⟨some 135, .load 25 (.tmp 3), 25, "ref.go:95", #[], none⟩) (v := ?va10) rfl (by kernel_rfl) (by kernel_rfl) (by kernel_rfl) (fun _ _ _ h => h) (YieldsM.of_if (Or.inl ⟨by rfl, ?ha10⟩)) ?ra10
      case ha10 => ((intro wz hSw; (try dsimp only at hSw); go_simp); try (with_reducible rfl))
      try simp only [Act.put, List.setIfInBounds_toArray, List.set_cons_zero, List.set_cons_succ]
      refine wpAnyM_take (i := 11) (oi := ⟨some 136, .move (.tmp 1), 28, "ref.go:95", #[], none⟩) (v := ?va11) rfl (by kernel_rfl) (by kernel_rfl) (by kernel_rfl) (fun _ _ _ h => h) (YieldsM.of_if (Or.inl ⟨by rfl, ?ha11⟩)) ?ra11
      case ha11 => ((intro wz hSw; (try dsimp only at hSw); go_simp); try (with_reducible rfl))
      try simp only [Act.put, List.setIfInBounds_toArray, List.set_cons_zero, List.set_cons_succ]
      refine wpAnyM_take (i := 12) (oi := ⟨some 137, .fieldAddr 65 (.tmp 7) 3, 0, "ref.go:95", #[], none⟩) (v := ?va12) rfl (by kernel_rfl) (by kernel_rfl) (by kernel_rfl) (fun _ _ _ h => h) (YieldsM.of_if (Or.inl ⟨by rfl, ?ha12⟩)) ?ra12
      case ha12 => ((intro wz hSw; (try dsimp only at hSw); go_simp); try (with_reducible rfl))
      try simp only [Act.put, List.setIfInBounds_toArray, List.set_cons_zero, List.set_cons_succ]
      refine wpAnyM_take (i := 13) (oi := ⟨some 138, .load 62 (.tmp 137), 62, "ref.go:95", #[⟨12, .data⟩], none⟩) (v := ?va13) rfl (by kernel_rfl) (by kernel_rfl) (by kernel_rfl) (fun _ _ _ h => h) (YieldsM.of_if (Or.inl ⟨by rfl, ?ha13⟩)) ?ra13
      case ha13 => ((intro wz hSw; (try dsimp only at hSw); go_simp); try (with_reducible rfl))
      try simp only [Act.put, List.setIfInBounds_toArray, List.set_cons_zero, List.set_cons_succ]
      refine wpAnyM_take (i := 14) (oi := ⟨some 139, .convert 62 3 (.tmp 138), 3, "ref.go:95", #[⟨13, .data⟩], none⟩) (v := ?va14) rfl (by kernel_rfl) (by kernel_rfl) (by kernel_rfl) (fun _ _ _ h => h) (YieldsM.of_if (Or.inl ⟨by rfl, ?ha14⟩)) ?ra14
      case ha14 => ((intro wz hSw; (try dsimp only at hSw); go_simp); try (with_reducible rfl))
      try simp only [Act.put, List.setIfInBounds_toArray, List.set_cons_zero, List.set_cons_succ]
      refine wpAnyM_take (i := 15) (oi := ⟨some 140, .call { callee := .value (.func 52), args := #[.tmp 135, .tmp 136, .tmp 139], argTypes := #[25, 28, 3] }, 59, "ref.go:95", #[⟨10, .data⟩, ⟨11, .data⟩, ⟨14, .data⟩, ⟨9, .chain⟩], none⟩) (v := (.agg #[.int .i64 ((sd (stds h) l.rt).tail : Int), .int .i64 ((sd (stds h) l.rt).head : Int), .int .i64 ((sd (stds h) l.rt).rk : Int)])) rfl (by kernel_rfl) (by kernel_rfl) (by kernel_rfl) (fun _ _ _ h => h) (YieldsM.of_call (f := 52) (by rfl) (fun _ _ => by kernel_rfl) (HEH3.out)) ?_
      try simp only [Act.put, List.setIfInBounds_toArray, List.set_cons_zero, List.set_cons_succ]
      refine wpAnyM_lays 3 [⟨16, ⟨some 12, .alloc 59, 0, "ref.go:95", #[], none⟩, fun b => .pointer (some ⟨b, 0, none⟩), (.cells #[.int .i64 0, .int .i64 0, .int .i64 0] 59)⟩, ⟨17, ⟨some 13, .alloc 59, 0, "ref.go:95", #[], none⟩, fun b => .pointer (some ⟨b, 0, none⟩), (.cells #[.int .i64 0, .int .i64 0, .int .i64 0] 59)⟩, ⟨18, ⟨some 14, .alloc 59, 0, "ref.go:95", #[], none⟩, fun b => .pointer (some ⟨b, 0, none⟩), (.cells #[.int .i64 0, .int .i64 0, .int .i64 0] 59)⟩] _ _ _ 3 rfl (by kernel_rfl) ?hi ?hnd (layM_apart (by kernel_rfl)) ?hsel ?hL (fun wx hx => HSS.out wx (btrH' (bdrew B8.out 1) hx)) ?hA
      case hi =>
        intro r hr
        simp only [List.mem_cons, List.not_mem_nil, or_false] at hr
        rcases hr with rfl | rfl | rfl <;> rfl
      case hnd => simp
      case hsel =>
        intro r hr cs b h
        simp only [List.mem_cons, List.not_mem_nil, or_false] at hr
        rcases hr with rfl | rfl | rfl <;> cases h
      case hL =>
        intro r hr
        simp only [List.mem_cons, List.not_mem_nil, or_false] at hr
        rcases hr with rfl | rfl | rfl
        all_goals exact ⟨by rfl, fun wz => by go_simp⟩
      intro β WZ hβ hβn hbl
      have g1 := hβ _ List.mem_cons_self
      have g2 := hβ _ (List.mem_cons_of_mem _ List.mem_cons_self)
      have g3 := hβ _ (List.mem_cons_of_mem _ (List.mem_cons_of_mem _ List.mem_cons_self))
      have n1 := hβn _ List.mem_cons_self _ (List.mem_cons_of_mem _ List.mem_cons_self) (show (16 : Nat) ≠ 17 by decide)
      have n2 := hβn _ List.mem_cons_self _ (List.mem_cons_of_mem _ (List.mem_cons_of_mem _ List.mem_cons_self)) (show (16 : Nat) ≠ 18 by decide)
      have n3 := hβn _ (List.mem_cons_of_mem _ List.mem_cons_self) _ (List.mem_cons_of_mem _ (List.mem_cons_of_mem _ List.mem_cons_self)) (show (17 : Nat) ≠ 18 by decide)
      dsimp only at g1 g2 g3 n1 n2 n3
      clear hβ hβn
      simp only [List.foldl_cons, List.foldl_nil]
      try simp only [Act.put, List.setIfInBounds_toArray, List.set_cons_zero, List.set_cons_succ]
      generalize β 16 = e1 at *
      generalize β 17 = e2 at *
      generalize β 18 = e3 at *
      have HZ0 : Hid (∀ wx, Below WZ.heap.size WZ wx → wx.heap[e1]? = some (.cells #[.int .i64 0, .int .i64 0, .int .i64 0] 59) ∧ wx.heap[e2]? = some (.cells #[.int .i64 0, .int .i64 0, .int .i64 0] 59) ∧ wx.heap[e3]? = some (.cells #[.int .i64 0, .int .i64 0, .int .i64 0] 59) ∧ Below W7.heap.size W7 wx) := fun wx hx => ⟨(hx.block _ (some_lt g1.1)).trans g1.1, (hx.block _ (some_lt g2.1)).trans g2.1, (hx.block _ (some_lt g3.1)).trans g3.1, btrH' (btrH' (bdrew B8.out 1) hbl) hx⟩
      have HLE : Hid (W7.heap.size ≤ e1 ∧ W7.heap.size ≤ e2 ∧ W7.heap.size ≤ e3) := by
        have q : W7.heap.size ≤ w8.drew.heap.size := B8.out.size
        exact ⟨Nat.le_trans q g1.2, Nat.le_trans q g2.2, Nat.le_trans q g3.2⟩
      have HNE : Hid (e1 ≠ e2 ∧ e1 ≠ e3 ∧ e2 ≠ e3) := ⟨n1, n2, n3⟩
      clear g1 g2 g3 n1 n2 n3 hbl
      refine readyM (i := 19) (o := ⟨none, .store 59 (.tmp 12) (.tmp 128), 0, "ref.go:95", #[⟨16, .data⟩, ⟨3, .data⟩, ⟨15, .chain⟩, ⟨0, .phase⟩, ⟨1, .phase⟩, ⟨2, .phase⟩, ⟨3, .phase⟩, ⟨4, .textOnly .lateStores⟩, ⟨5, .textOnly .lateStores⟩, ⟨6, .textOnly .lateStores⟩, ⟨7, .textOnly .lateStores⟩, ⟨8, .textOnly .lateStores⟩, ⟨9, .textOnly .lateStoresUnsure⟩, ⟨10, .textOnly .lateStores⟩, ⟨11, .textOnly .lateStores⟩, ⟨12, .textOnly .lateStores⟩, ⟨13, .textOnly .lateStores⟩, ⟨14, .textOnly .lateStores⟩, ⟨15, .textOnly .lateStoresUnsure⟩, ⟨16, .phase⟩, ⟨17, .phase⟩, ⟨18, .phase⟩], none⟩) rfl (by kernel_rfl) ?_
      intro v0 hg0 hS0 K hK
      obtain ⟨g1, g2, g3, gB⟩ := HZ0.out v0 hg0
      obtain ⟨⟨d0, d1, d2⟩, f0, f1, f2⟩ := three_cells g1
      have HF : Hid ((((v0.setCell ⟨e1, 0, none⟩ (.int .i64 ((sd (stds h) i).tail : Int))).setCell ⟨e1, 1, none⟩ (.int .i64 ((sd (stds h) i).head : Int))).setCell ⟨e1, 2, none⟩ (.int .i64 ((sd (stds h) i).rk : Int))).heap[e1]? = some (.cells #[.int .i64 ((sd (stds h) i).tail : Int), .int .i64 ((sd (stds h) i).head : Int), .int .i64 ((sd (stds h) i).rk : Int)] 59) ∧ (((v0.setCell ⟨e1, 0, none⟩ (.int .i64 ((sd (stds h) i).tail : Int))).setCell ⟨e1, 1, none⟩ (.int .i64 ((sd (stds h) i).head : Int))).setCell ⟨e1, 2, none⟩ (.int .i64 ((sd (stds h) i).rk : Int))).heap[e2]? = some (.cells #[.int .i64 0, .int .i64 0, .int .i64 0] 59) ∧ (((v0.setCell ⟨e1, 0, none⟩ (.int .i64 ((sd (stds h) i).tail : Int))).setCell ⟨e1, 1, none⟩ (.int .i64 ((sd (stds h) i).head : Int))).setCell ⟨e1, 2, none⟩ (.int .i64 ((sd (stds h) i).rk : Int))).heap[e3]? = some (.cells #[.int .i64 0, .int .i64 0, .int .i64 0] 59) ∧ Below W7.heap.size W7 (((v0.setCell ⟨e1, 0, none⟩ (.int .i64 ((sd (stds h) i).tail : Int))).setCell ⟨e1, 1, none⟩ (.int .i64 ((sd (stds h) i).head : Int))).setCell ⟨e1, 2, none⟩ (.int .i64 ((sd (stds h) i).rk : Int)))) := ⟨set_three g1 _ _ _, (set3_far (Ne.symm HNE.out.1)).trans g2, (set3_far (Ne.symm HNE.out.2.1)).trans g3, set3_up gB HLE.out.1⟩
      clear g1 g2 g3 gB hg0 hS0
      go_simp
      refine hK.out _ _ (HSS.out _ HF.out.2.2.2) ?_
      clear hK K d0 d1 d2 f0 f1 f2
      try simp only [Act.put, List.setIfInBounds_toArray, List.set_cons_zero, List.set_cons_succ]
      generalize (((v0.setCell ⟨e1, 0, none⟩ (.int .i64 ((sd (stds h) i).tail : Int))).setCell ⟨e1, 1, none⟩ (.int .i64 ((sd (stds h) i).head : Int))).setCell ⟨e1, 2, none⟩ (.int .i64 ((sd (stds h) i).rk : Int))) = U1 at *
      have HZ1 : Hid (∀ wx, Below U1.heap.size U1 wx → wx.heap[e1]? = some (.cells #[.int .i64 ((sd (stds h) i).tail : Int), .int .i64 ((sd (stds h) i).head : Int), .int .i64 ((sd (stds h) i).rk : Int)] 59) ∧ wx.heap[e2]? = some (.cells #[.int .i64 0, .int .i64 0, .int .i64 0] 59) ∧ wx.heap[e3]? = some (.cells #[.int .i64 0, .int .i64 0, .int .i64 0] 59) ∧ Below W7.heap.size W7 wx) := fun wx hx => ⟨(hx.block _ (some_lt HF.out.1)).trans HF.out.1, (hx.block _ (some_lt HF.out.2.1)).trans HF.out.2.1, (hx.block _ (some_lt HF.out.2.2.1)).trans HF.out.2.2.1, btrH' HF.out.2.2.2 hx⟩
      clear HF HZ0
      refine readyM (i := 20) (o := ⟨none, .store 59 (.tmp 13) (.tmp 134), 0, "ref.go:95", #[⟨17, .data⟩, ⟨9, .data⟩, ⟨19, .chain⟩, ⟨0, .phase⟩, ⟨1, .phase⟩, ⟨2, .phase⟩, ⟨3, .phase⟩, ⟨4, .phase⟩, ⟨5, .phase⟩, ⟨6, .phase⟩, ⟨7, .phase⟩, ⟨8, .phase⟩, ⟨9, .phase⟩, ⟨10, .textOnly .lateStores⟩, ⟨11, .textOnly .lateStores⟩, ⟨12, .textOnly .lateStores⟩, ⟨13, .textOnly .lateStores⟩, ⟨14, .textOnly .lateStores⟩, ⟨15, .textOnly .lateStoresUnsure⟩, ⟨16, .phase⟩, ⟨17, .phase⟩, ⟨18, .phase⟩, ⟨19, .phase⟩], none⟩) rfl (by kernel_rfl) ?_
      intro v1 hg1 hS1 K hK
      obtain ⟨g1, g2, g3, gB⟩ := HZ1.out v1 hg1
      obtain ⟨⟨d0, d1, d2⟩, f0, f1, f2⟩ := three_cells g2
      have HF : Hid ((((v1.setCell ⟨e2, 0, none⟩ (.int .i64 ((sd (stds h) l.lf).tail : Int))).setCell ⟨e2, 1, none⟩ (.int .i64 ((sd (stds h) l.lf).head : Int))).setCell ⟨e2, 2, none⟩ (.int .i64 ((sd (stds h) l.lf).rk : Int))).heap[e1]? = some (.cells #[.int .i64 ((sd (stds h) i).tail : Int), .int .i64 ((sd (stds h) i).head : Int), .int .i64 ((sd (stds h) i).rk : Int)] 59) ∧ (((v1.setCell ⟨e2, 0, none⟩ (.int .i64 ((sd (stds h) l.lf).tail : Int))).setCell ⟨e2, 1, none⟩ (.int .i64 ((sd (stds h) l.lf).head : Int))).setCell ⟨e2, 2, none⟩ (.int .i64 ((sd (stds h) l.lf).rk : Int))).heap[e2]? = some (.cells #[.int .i64 ((sd (stds h) l.lf).tail : Int), .int .i64 ((sd (stds h) l.lf).head : Int), .int .i64 ((sd (stds h) l.lf).rk : Int)] 59) ∧ (((v1.setCell ⟨e2, 0, none⟩ (.int .i64 ((sd (stds h) l.lf).tail : Int))).setCell ⟨e2, 1, none⟩ (.int .i64 ((sd (stds h) l.lf).head : Int))).setCell ⟨e2, 2, none⟩ (.int .i64 ((sd (stds h) l.lf).rk : Int))).heap[e3]? = some (.cells #[.int .i64 0, .int .i64 0, .int .i64 0] 59) ∧ Below W7.heap.size W7 (((v1.setCell ⟨e2, 0, none⟩ (.int .i64 ((sd (stds h) l.lf).tail : Int))).setCell ⟨e2, 1, none⟩ (.int .i64 ((sd (stds h) l.lf).head : Int))).setCell ⟨e2, 2, none⟩ (.int .i64 ((sd (stds h) l.lf).rk : Int)))) := ⟨(set3_far HNE.out.1).trans g1, set_three g2 _ _ _, (set3_far (Ne.symm HNE.out.2.2)).trans g3, set3_up gB HLE.out.2.1⟩
      clear g1 g2 g3 gB hg1 hS1
      go_simp
      refine hK.out _ _ (HSS.out _ HF.out.2.2.2) ?_
      clear hK K d0 d1 d2 f0 f1 f2
      try simp only [Act.put, List.setIfInBounds_toArray, List.set_cons_zero, List.set_cons_succ]
      generalize (((v1.setCell ⟨e2, 0, none⟩ (.int .i64 ((sd (stds h) l.lf).tail : Int))).setCell ⟨e2, 1, none⟩ (.int .i64 ((sd (stds h) l.lf).head : Int))).setCell ⟨e2, 2, none⟩ (.int .i64 ((sd (stds h) l.lf).rk : Int))) = U2 at *
      have HZ2 : Hid (∀ wx, Below U2.heap.size U2 wx → wx.heap[e1]? = some (.cells #[.int .i64 ((sd (stds h) i).tail : Int), .int .i64 ((sd (stds h) i).head : Int), .int .i64 ((sd (stds h) i).rk : Int)] 59) ∧ wx.heap[e2]? = some (.cells #[.int .i64 ((sd (stds h) l.lf).tail : Int), .int .i64 ((sd (stds h) l.lf).head : Int), .int .i64 ((sd (stds h) l.lf).rk : Int)] 59) ∧ wx.heap[e3]? = some (.cells #[.int .i64 0, .int .i64 0, .int .i64 0] 59) ∧ Below W7.heap.size W7 wx) := fun wx hx => ⟨(hx.block _ (some_lt HF.out.1)).trans HF.out.1, (hx.block _ (some_lt HF.out.2.1)).trans HF.out.2.1, (hx.block _ (some_lt HF.out.2.2.1)).trans HF.out.2.2.1, btrH' HF.out.2.2.2 hx⟩
      clear HF HZ1
      refine readyM (i := 21) (o := ⟨none, .store 59 (.tmp 14) (.tmp 140), 0, "ref.go:95", #[⟨18, .data⟩, ⟨15, .data⟩, ⟨20, .chain⟩, ⟨0, .phase⟩, ⟨1, .phase⟩, ⟨2, .phase⟩, ⟨3, .phase⟩, ⟨4, .phase⟩, ⟨5, .phase⟩, ⟨6, .phase⟩, ⟨7, .phase⟩, ⟨8, .phase⟩, ⟨9, .phase⟩, ⟨10, .phase⟩, ⟨11, .phase⟩, ⟨12, .phase⟩, ⟨13, .phase⟩, ⟨14, .phase⟩, ⟨15, .phase⟩, ⟨16, .phase⟩, ⟨17, .phase⟩, ⟨18, .phase⟩, ⟨19, .phase⟩, ⟨20, .phase⟩], none⟩) rfl (by kernel_rfl) ?_
      intro v2 hg2 hS2 K hK
      obtain ⟨g1, g2, g3, gB⟩ := HZ2.out v2 hg2
      obtain ⟨⟨d0, d1, d2⟩, f0, f1, f2⟩ := three_cells g3
      have HF : Hid ((((v2.setCell ⟨e3, 0, none⟩ (.int .i64 ((sd (stds h) l.rt).tail : Int))).setCell ⟨e3, 1, none⟩ (.int .i64 ((sd (stds h) l.rt).head : Int))).setCell ⟨e3, 2, none⟩ (.int .i64 ((sd (stds h) l.rt).rk : Int))).heap[e1]? = some (.cells #[.int .i64 ((sd (stds h) i).tail : Int), .int .i64 ((sd (stds h) i).head : Int), .int .i64 ((sd (stds h) i).rk : Int)] 59) ∧ (((v2.setCell ⟨e3, 0, none⟩ (.int .i64 ((sd (stds h) l.rt).tail : Int))).setCell ⟨e3, 1, none⟩ (.int .i64 ((sd (stds h) l.rt).head : Int))).setCell ⟨e3, 2, none⟩ (.int .i64 ((sd (stds h) l.rt).rk : Int))).heap[e2]? = some (.cells #[.int .i64 ((sd (stds h) l.lf).tail : Int), .int .i64 ((sd (stds h) l.lf).head : Int), .int .i64 ((sd (stds h) l.lf).rk : Int)] 59) ∧ (((v2.setCell ⟨e3, 0, none⟩ (.int .i64 ((sd (stds h) l.rt).tail : Int))).setCell ⟨e3, 1, none⟩ (.int .i64 ((sd (stds h) l.rt).head : Int))).setCell ⟨e3, 2, none⟩ (.int .i64 ((sd (stds h) l.rt).rk : Int))).heap[e3]? = some (.cells #[.int .i64 ((sd (stds h) l.rt).tail : Int), .int .i64 ((sd (stds h) l.rt).head : Int), .int .i64 ((sd (stds h) l.rt).rk : Int)] 59) ∧ Below W7.heap.size W7 (((v2.setCell ⟨e3, 0, none⟩ (.int .i64 ((sd (stds h) l.rt).tail : Int))).setCell ⟨e3, 1, none⟩ (.int .i64 ((sd (stds h) l.rt).head : Int))).setCell ⟨e3, 2, none⟩ (.int .i64 ((sd (stds h) l.rt).rk : Int)))) := ⟨(set3_far HNE.out.2.1).trans g1, (set3_far HNE.out.2.2).trans g2, set_three g3 _ _ _, set3_up gB HLE.out.2.2⟩
      clear g1 g2 g3 gB hg2 hS2
      go_simp
      refine hK.out _ _ (HSS.out _ HF.out.2.2.2) ?_
      clear hK K d0 d1 d2 f0 f1 f2
      try simp only [Act.put, List.setIfInBounds_toArray, List.set_cons_zero, List.set_cons_succ]
      generalize (((v2.setCell ⟨e3, 0, none⟩ (.int .i64 ((sd (stds h) l.rt).tail : Int))).setCell ⟨e3, 1, none⟩ (.int .i64 ((sd (stds h) l.rt).head : Int))).setCell ⟨e3, 2, none⟩ (.int .i64 ((sd (stds h) l.rt).rk : Int))) = U3 at *
      have HZ3 : Hid (∀ wx, Below U3.heap.size U3 wx → wx.heap[e1]? = some (.cells #[.int .i64 ((sd (stds h) i).tail : Int), .int .i64 ((sd (stds h) i).head : Int), .int .i64 ((sd (stds h) i).rk : Int)] 59) ∧ wx.heap[e2]? = some (.cells #[.int .i64 ((sd (stds h) l.lf).tail : Int), .int .i64 ((sd (stds h) l.lf).head : Int), .int .i64 ((sd (stds h) l.lf).rk : Int)] 59) ∧ wx.heap[e3]? = some (.cells #[.int .i64 ((sd (stds h) l.rt).tail : Int), .int .i64 ((sd (stds h) l.rt).head : Int), .int .i64 ((sd (stds h) l.rt).rk : Int)] 59) ∧ Below W7.heap.size W7 wx) := fun wx hx => ⟨(hx.block _ (some_lt HF.out.1)).trans HF.out.1, (hx.block _ (some_lt HF.out.2.1)).trans HF.out.2.1, (hx.block _ (some_lt HF.out.2.2.1)).trans HF.out.2.2.1, btrH' HF.out.2.2.2 hx⟩
      clear HF HZ2
      refine wpAnyM_done (by kernel_rfl) ?_ _
      intro v4 hg4 hS4
      exact KEY14 _ _ _ _ _ _ _ _ _ _ _ _ _ _ _ _ _ _ _ _ _ _ _ _ _ _ _ _ _ _ _ _ _ _ _ _ _ _ _ _ _ _ _ _ _ _ _ _ _ _ _ _ _ _ _ _ _ _ _ _ _ _ _ _ _ _ _ _ _ _ _ _ _ _ _ _ _ _ _ _ _ _ _ _ _ _ _ _ _ _ _ _ _ _ _ _ _ _ _ _ _ _ _ _ _ _ _ _ _ _ _ _ _ _ _ _ _ _ _ _ _ _ _ _ e1 e2 e3 v4 (HZ3.out v4 hg4)
    by_cases t1 : i = 0
    · have v1 : ((i : Int) != 0) = false := by simp; omega
      have HT1 : Hid (i = 0) := t1
      clear t1
      go_quiet (fail)
      all_goals exact KEY5 _ _ _ _ _ _ _ _ _ _ _ _ _ _ _ _ _ _ _ _ _ _ _ _ _ _ _ _ _ _ _ _ _ _ _ _ _ _ _ _ _ _ _ _ _ _ _ _ _ _ _ _ _ _ _ _ _ _ _ _ _ _ _ _ (by first | exact HW4.out | exact HW4.out.drew | exact bdrew HW4.out _)
    have u1 : ((i : Int) == 0) = false := by simp; omega
    have v1 : ((i : Int) != 0) = true := by simp; omega
    by_cases t2 : i = h.up.length
    · have v3 : ((i : Int) != (h.up.length : Int)) = false := by simp; omega
      have HT2 : Hid (i = h.up.length) := t2
      clear t2
      go_quiet (fail)
      all_goals exact KEY5 _ _ _ _ _ _ _ _ _ _ _ _ _ _ _ _ _ _ _ _ _ _ _ _ _ _ _ _ _ _ _ _ _ _ _ _ _ _ _ _ _ _ _ _ _ _ _ _ _ _ _ _ _ _ _ _ _ _ _ _ _ _ _ _ (by first | exact HW4.out | exact HW4.out.drew | exact bdrew HW4.out _)
    have u3 : ((i : Int) == (h.up.length : Int)) = false := by simp; omega
    have v3 : ((i : Int) != (h.up.length : Int)) = true := by simp; omega
    obtain ⟨m, hm⟩ : ∃ m, i = m + 1 := ⟨i - 1, by omega⟩
    have em : i - 1 = m := by omega
    have xm : IntKind.i64.wrap ((i : Int) - 1) = (m : Int) := by have := HLN.out.2; rw [IntKind.wrap_i64]; omega
    have j3 : (0 : Int) ≤ (m : Int) := by omega
    have j4 : (m : Int) < (n : Int) := by omega
    have j5 : m < n := by omega
    have HLM : Hid (∀ wx, Below W0.heap.size W0 wx → Calls Tryz.prog 27 #[(.agg #[.slice v.no h.node.length v.nc, .slice v.uo h.upF.length v.uc, .slice v.ul h.up.length v.ulc, .slice v.wo h.dnF.length v.wc, .slice v.dl h.dn.length v.dlc]), .int .i64 (m : Int)] wx fun e w' => e = .returned (.agg #[.int .u32 ((linkAt h m).hd : Int), .int .u64 ((linkAt h m).wt : Int), .int .u32 ((linkAt h m).lf : Int), .int .u32 ((linkAt h m).rt : Int)]) ∧ Below wx.heap.size wx w') := fun wx hx => HLK.out wx hx m (by rw [HLN.out.1]; exact j5)
    have hxf := field_hd ((linkAt h m).hd : Int) ((linkAt h m).wt : Int) ((linkAt h m).lf : Int) ((linkAt h m).rt : Int)
    have HEM : Hid (i - 1 = m) := em
    have HIM : Hid (i = m + 1) := hm
    clear em hm
    have km := HRI.out W4 (HY.out W4 (HP.out W4 HW4.out).2.2).2 m (by rw [HLN.out.1]; exact j5)
    by_cases t3 : (sd (stds h) m).rk = (sd (stds h) i).rk
    · have t4 : (linkAt h m).hd < l.hd := by
        rcases Nat.lt_or_ge (linkAt h m).hd l.hd with g' | g'
        · exact g'
        · exact absurd (HRS.out.mpr ⟨t1, t2, by rw [HEM.out]; exact t3, by rw [HEM.out]; exact g'⟩) hrf
      have u5 : (((sd (stds h) m).rk : Int) == ((sd (stds h) i).rk : Int)) = true := by simp; omega
      have u7 : decide ((l.hd : Int) ≤ ((linkAt h m).hd : Int)) = false := by simp; omega
      have u8 : decide (l.hd ≤ (linkAt h m).hd) = false := by simp; omega
      clear t1 t2 t3 t4
      go_region_held3 (fun w' => w'.cell? ⟨z, 0, none⟩ = some (.slice v.no h.node.length v.nc) ∧ w'.cell? ⟨z, 1, none⟩ = some (.slice v.uo h.upF.length v.uc) ∧ w'.cell? ⟨z, 2, none⟩ = some (.slice v.ul h.up.length v.ulc) ∧ w'.cell? ⟨z, 3, none⟩ = some (.slice v.wo h.dnF.length v.wc) ∧ w'.cell? ⟨z, 4, none⟩ = some (.slice v.dl h.dn.length v.dlc) ∧ w'.cell? ⟨q, 0, none⟩ = some (.int .u32 (l.hd : Int)) ∧ w'.cell? ⟨mb, i, none⟩ = some (.int .i64 ((sd (stds h) i).rk : Int)) ∧ w'.cell? ⟨mb, m, none⟩ = some (.int .i64 ((sd (stds h) m).rk : Int))) (go_keep) (first | (go_at_call 27; refine (HLM.out _ (HY.out _ (HP.out _ (by first | exact HW4.out | exact HW4.out.drew | exact bdrew HW4.out _)).2.2).2).mono ?_; rintro e y5 ⟨rfl, hy⟩; have Y5 : Hid (Below W3.heap.size W3 y5) := btrH' (by first | exact HW4.out | exact HW4.out.drew | exact bdrew HW4.out _) hy; clear c0 c1 c2 c3 c4 k0 k1 k2 k3 kr km hy; obtain ⟨c0, c1, c2, c3, c4⟩ := (HQ.out y5 (HY.out y5 (HP.out y5 Y5.out).2.2).2).1; obtain ⟨⟨k0, k1, k2, k3⟩, _⟩ := four_cells (HY.out y5 (HP.out y5 Y5.out).2.2).1; have kr := HRI.out y5 (HY.out y5 (HP.out y5 Y5.out).2.2).2 i (by rw [HLN.out.1]; exact hi); have km := HRI.out y5 (HY.out y5 (HP.out y5 Y5.out).2.2).2 m (by rw [HLN.out.1]; omega)))
      all_goals exact KEY5 _ _ _ _ _ _ _ _ _ _ _ _ _ _ _ _ _ _ _ _ _ _ _ _ _ _ _ _ _ _ _ _ _ _ _ _ _ _ _ _ _ _ _ _ _ _ _ _ _ _ _ _ _ _ _ _ _ _ _ _ _ _ _ _ (by first | exact Y5.out | exact Y5.out.drew | exact bdrew Y5.out _ | exact HW4.out | exact HW4.out.drew | exact bdrew HW4.out _)
    · have u5 : (((sd (stds h) m).rk : Int) == ((sd (stds h) i).rk : Int)) = false := by simp; omega
      clear t1 t2 t3
      go_quiet (fail)
      all_goals exact KEY5 _ _ _ _ _ _ _ _ _ _ _ _ _ _ _ _ _ _ _ _ _ _ _ _ _ _ _ _ _ _ _ _ _ _ _ _ _ _ _ _ _ _ _ _ _ _ _ _ _ _ _ _ _ _ _ _ _ _ _ _ _ _ _ _ (by first | exact HW4.out | exact HW4.out.drew | exact bdrew HW4.out _)
  go_region_held3 (fun w' => w'.cell? ⟨z, 0, none⟩ = some (.slice v.no h.node.length v.nc) ∧ w'.cell? ⟨z, 1, none⟩ = some (.slice v.uo h.upF.length v.uc) ∧ w'.cell? ⟨z, 2, none⟩ = some (.slice v.ul h.up.length v.ulc) ∧ w'.cell? ⟨z, 3, none⟩ = some (.slice v.wo h.dnF.length v.wc) ∧ w'.cell? ⟨z, 4, none⟩ = some (.slice v.dl h.dn.length v.dlc)) (go_keep) (first
    | (go_at_call 27; refine (HLI.out _ (by first | exact Below.refl _ _ | exact (Below.refl _ _).alloc (Nat.le_refl _) _ | exact bdrew (Below.refl _ _) _ | exact (bdrew (Below.refl _ _) _).alloc (Nat.le_refl _) _ | exact (Below.refl _ _).drew)).mono ?_; rintro e y1 ⟨rfl, hy⟩; have Y1 : Hid (Below W0.heap.size W0 y1) := (by first | exact hy | exact belA hy | exact belD hy | exact belAD hy); (first | (have Z : Hid (y1.heap[W0.heap.size]? = some (.cells #[.int .u32 0, .int .u64 0, .int .u32 0, .int .u32 0] 65)) := (hy.block _ (some_lt (heap_newW _ (.cells #[.int .u32 0, .int .u64 0, .int .u32 0, .int .u32 0] 65)))).trans (heap_newW _ (.cells #[.int .u32 0, .int .u64 0, .int .u32 0, .int .u32 0] 65)); obtain ⟨⟨z0, z1, z2, z3⟩, f0, f1, f2, f3⟩ := four_cells Z.out) | skip); have n1 : z ≠ y1.heap.size := (by have := HS0.out; have := Y1.out.size; omega); have p1 : y1.heap.size ≠ z := n1.symm; clear c0 c1 c2 c3 c4; obtain ⟨c0, c1, c2, c3, c4⟩ := (HQ.out y1 Y1.out).1; clear hy))
  · exact KEY1 _ _ _ _ _ _ _ _ _ _ _ _ _ y1.heap.size _ ⟨Y1.out.alloc Y1.out.size _, heap_newW _ _, Nat.lt_of_lt_of_le HS0.out Y1.out.size⟩
  · exact KEY1 _ _ _ _ _ _ _ _ _ _ _ _ _ W0.heap.size _ ⟨(((Y1.out.setCell (p := ⟨W0.heap.size, 0, none⟩) (Nat.le_refl _) _).setCell (p := ⟨W0.heap.size, 1, none⟩) (Nat.le_refl _) _).setCell (p := ⟨W0.heap.size, 2, none⟩) (Nat.le_refl _) _).setCell (p := ⟨W0.heap.size, 3, none⟩) (Nat.le_refl _) _, set_four Z.out _ _ _ _, HS0.out⟩
end Go.Proofs.YtodilocmfdeehaaGreatDoor.Hi
