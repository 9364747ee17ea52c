/- HierFalls walked. -/
import Derived.Test.YtmofokjkfmgglaaHrT
import Derived.Test.YtmofokjkfmgglaaHrU
import Derived.Deep.RegionHeld3
namespace Go.Proofs.Ytmofokjkfmgglaa.Hi
open Go.RowKit Go.Extern Go.Sort Go.Shelf

attribute [local go_sem] Oper.semAt_some

theorem btrH {Z a b : World} (h : Below Z.heap.size Z a) (g : Below a.heap.size a b) : Below Z.heap.size Z b := h.trans (g.mono h.size)
set_option maxRecDepth 100000 in
theorem field_wt (a b c d : Int) (wx : World) : (Instr.field 42 (.agg #[.int .u32 a, .int .u64 b, .int .u32 c, .int .u32 d]) 1).run Try.prog wx = .ok (.int .u64 b) wx := by
  first | kernel_rfl | rfl
theorem ends_ok {v : HV} {h : Hr} {i : Nat} {w : World} (hH : HasH w v h) (hc : chk h = (0, [])) (hi : i < (stds h).length) :
    Calls Try.prog 16 #[hvl v h, .int .i64 (i : Int)] w fun e w' => e = .returned (.tuple #[.int .i64 ((sd (stds h) i).tail : Int), .int .i64 ((sd (stds h) i).head : Int), .nilIface]) ∧ Below w.heap.size w w' := by
  obtain ⟨k1, k2, k3, k4, k5, k6, k7, k8⟩ := chk_ok hc
  refine (ends_calls v h i w hH (by omega) (by omega) (by omega)).mono ?_
  rintro e w2 ⟨x, y, u, rfl, hb2, hh⟩
  have he : endsE h (i : Int) = (((sd (stds h) i).tail : Int), ((sd (stds h) i).head : Int), (0, [])) := by
    unfold endsE
    rw [if_pos ⟨by omega, by omega⟩]
    rfl
  rw [he] at hh
  rcases hh with ⟨_, h1, rfl⟩ | ⟨_, h1, _⟩ | ⟨hc', _⟩
  · simp only [Prod.mk.injEq] at h1
    obtain ⟨rfl, rfl, _⟩ := h1
    exact ⟨rfl, hb2⟩
  · simp at h1
  · exact absurd hc hc'
theorem check_ok {v : HV} {h : Hr} {w : World} (hH : HasH w v h) (hc : chk h = (0, [])) : Calls Try.prog 13 #[hvl v h] w fun e w' => e = .returned .nilIface ∧ Below w.heap.size w w' := by
  obtain ⟨k1, k2, k3, k4, k5, k6, k7, k8⟩ := chk_ok hc
  refine (check_calls v h w hH (by omega) (by omega) (by omega)).mono ?_
  rintro e w2 ⟨u, rfl, ht, hb⟩
  rw [hc] at ht
  rw [isTold_nil ht]
  exact ⟨rfl, hb⟩
theorem ranks_ok {v : HV} {h : Hr} {w : World} (hH : HasH w v h) (hc : chk h = (0, [])) : Calls Try.prog 23 #[hvl v h] w fun e w' => ∃ lo c, e = .returned (.tuple #[.slice lo h.node.length c, .nilIface]) ∧ HasInts w' (.slice lo h.node.length c) (intsL (rkM h.node)) ∧ Below w.heap.size w w' := by
  obtain ⟨k1, k2, k3, k4, k5, k6, k7, k8⟩ := chk_ok hc
  refine (ranks_calls v h w hH (by omega) (by omega) (by omega)).mono ?_
  rintro e w2 ⟨lo, k, c, u, L, rfl, hb, hI, _, hh⟩
  rcases hh with ⟨_, rfl, rfl⟩ | ⟨hc', _⟩
  · have hk : k = h.node.length := by
      obtain ⟨_, _, e, _⟩ := hI
      injection e with _ e _
      rw [e]
      unfold intsL
      rw [List.length_map, rkM_len]
    subst hk
    exact ⟨lo, c, rfl, hI, hb⟩
  · exact absurd hc hc'

set_option maxRecDepth 100000 in
set_option maxHeartbeats 8000000 in
theorem falls_good (v : HV) (h : Hr) (w : World) (hH : HasH w v h) (hc : chk h = (0, [])) (hg : greatB h = false) :
    Calls Try.prog 5 #[hvl v h] w fun e w' => e = .returned (.bool true) ∧ Below w.heap.size w w' := by
  obtain ⟨k1, k2, k3, k4, k5, k6, k7, k8⟩ := chk_ok hc
  have hC : (stds h).length = h.up.length + h.dn.length := stds_len k5 k6
  obtain ⟨z, hz⟩ : ∃ z, w.heap.size = z := ⟨_, rfl⟩
  obtain ⟨W0, hW0⟩ : ∃ W0, w.alloc (.cells (cellsH v h) 25) = W0 := ⟨_, rfl⟩
  have h0 : ∀ wx, Below W0.heap.size W0 wx → wx.heap[z]? = some (.cells (cellsH v h) 25) ∧ HasH wx v h ∧ Below w.heap.size w wx := fun wx hx => by
    have h1 : W0.heap[z]? = some (.cells (cellsH v h) 25) := by rw [← hW0, ← hz]; exact heap_newW _ _
    have h2 : Below w.heap.size w W0 := by rw [← hW0]; exact (Below.refl _ _).alloc (Nat.le_refl _) _
    have h3 := h2.trans (hx.mono h2.size)
    exact ⟨(hx.block _ (some_lt h1)).trans h1, hH.keep h3, h3⟩
  have HW0 : Hid (w.alloc (.cells (cellsH v h) 25) = W0) := hW0
  have H0 : Hid (type_of% h0) := h0
  have HC : Hid (chk h = (0, []) ∧ (stds h).length = h.up.length + h.dn.length) := ⟨hc, hC⟩
  have HGR : Hid (∀ wx, Below W0.heap.size W0 wx → Calls Try.prog 11 #[hvl v h] wx fun e w' => e = .returned (.bool false) ∧ Below wx.heap.size wx w') := fun wx _ => hg ▸ great_calls v h wx (by omega) (by omega)
  have HCK : Hid (∀ wx, Below W0.heap.size W0 wx → Calls Try.prog 13 #[hvl v h] wx fun e w' => e = .returned .nilIface ∧ Below wx.heap.size wx w') := fun wx hx => check_ok (h0 wx hx).2.1 hc
  have HCT : Hid (∀ wx, Calls Try.prog 15 #[hvl v h] wx fun e w' => e = .returned (.int .i64 ((h.up.length + h.dn.length : Nat) : Int)) ∧ Below wx.heap.size wx w') := fun wx => (count_calls v h wx (by omega) (by omega)).mono (by rintro e w' ⟨rfl, rfl⟩; exact ⟨rfl, (Below.refl _ _).alloc (Nat.le_refl _) _⟩)
  have HEN : Hid (∀ wx, Below W0.heap.size W0 wx → ∀ i, i < h.up.length + h.dn.length → Calls Try.prog 16 #[hvl v h, .int .i64 (i : Int)] wx fun e w' => e = .returned (.tuple #[.int .i64 ((sd (stds h) i).tail : Int), .int .i64 ((sd (stds h) i).head : Int), .nilIface]) ∧ Below wx.heap.size wx w') := fun wx hx i hi => ends_ok (h0 wx hx).2.1 hc (by omega)
  have HLK : Hid (∀ wx, Below W0.heap.size W0 wx → ∀ i, i < h.up.length + h.dn.length → Calls Try.prog 17 #[hvl v h, .int .i64 (i : Int)] wx fun e w' => e = .returned (lvl (linkAt h i)) ∧ Below wx.heap.size wx w') := fun wx hx i hi => link_calls v h i wx (h0 wx hx).2.1 (by omega) hi
  have HRK : Hid (∀ wx, Below W0.heap.size W0 wx → Calls Try.prog 23 #[hvl v h] wx fun e w' => ∃ lo c, e = .returned (.tuple #[.slice lo h.node.length c, .nilIface]) ∧ HasInts w' (.slice lo h.node.length c) (intsL (rkM h.node)) ∧ Below wx.heap.size wx w') := fun wx hx => ranks_ok (h0 wx hx).2.1 hc
  have HLEN : Hid (h.node.length ≤ 65536 ∧ h.up.length + h.dn.length ≤ 1048576 ∧ cn h.node = (0, [])) := ⟨k1, k2, k7⟩
  clear hW0 h0 hc hC hg k1 k2 k3 k4 k5 k6 k7 k8 hH
  have HF5 : Hid (∀ wx, Below W0.heap.size W0 wx → wx.cell? ⟨z, 0, none⟩ = some (.slice v.no h.node.length v.nc) ∧ wx.cell? ⟨z, 1, none⟩ = some (.slice v.uo h.upF.length v.uc) ∧ wx.cell? ⟨z, 2, none⟩ = some (.slice v.ul h.up.length v.ulc) ∧ wx.cell? ⟨z, 3, none⟩ = some (.slice v.wo h.dnF.length v.wc) ∧ wx.cell? ⟨z, 4, none⟩ = some (.slice v.dl h.dn.length v.dlc)) := fun wx hx => five_cells (H0.out wx hx).1
  unfold hvl at HGR HCK HCT HEN HLK HRK ⊢
  unfold cellsH at HW0
  unfold lvl at HLK
  generalize hCC : h.up.length + h.dn.length = C at *
  have hCB : C ≤ 1048576 := HLEN.out.2.1
  go_enter Try.func5, Try.ntmps5
  go_wp2_with fail
  rw [HW0.out]
  refine (awake10_calls W0).mono ?_
  rintro e w1 ⟨rfl, hb1⟩
  have HB1 : Hid (Below W0.heap.size W0 w1) := hb1
  obtain ⟨c0, c1, c2, c3, c4⟩ := HF5.out w1 hb1
  clear hb1
  go_wp2_with fail
  refine (HGR.out w1 HB1.out).mono ?_
  rintro e w2 ⟨rfl, hb2⟩
  have HB2 : Hid (Below W0.heap.size W0 w2) := btrH HB1.out hb2
  obtain ⟨d0, d1, d2, d3, d4⟩ := HF5.out w2 HB2.out
  clear hb2 c0 c1 c2 c3 c4
  go_wp2_with fail
  refine (HCK.out w2 HB2.out).mono ?_
  rintro e w3 ⟨rfl, hb3⟩
  have HB3 : Hid (Below W0.heap.size W0 w3) := btrH HB2.out hb3
  obtain ⟨c0, c1, c2, c3, c4⟩ := HF5.out w3 HB3.out
  clear hb3 d0 d1 d2 d3 d4
  go_wp2_with fail
  refine (HCT.out w3).mono ?_
  rintro e w4 ⟨rfl, hb4⟩
  have HB4 : Hid (Below W0.heap.size W0 w4) := btrH HB3.out hb4
  clear hb4 c0 c1 c2 c3 c4
  go_wp2_with fail
  go_loopw [28] (fun iv wr => ∃ k : Nat, k ≤ C ∧ iv = .int .i64 k ∧ Hid (Below W0.heap.size W0 wr)) (fun iv _ => C - (intOf iv).toNat)
  case atStart => exact ⟨0, Nat.zero_le _, rfl, HB4.out⟩
  case round =>
    obtain ⟨k, hk, rfl, HB⟩ := hrel
    rcases Nat.lt_or_eq_of_le hk with h1 | h1
    · have hE := HEN.out wr HB.out k h1
      have hap := ends_apart HC.out.1 (i := k) (by have := HC.out.2; omega)
      obtain ⟨a, ha⟩ : ∃ a, (sd (stds h) k).tail = a := ⟨_, rfl⟩
      obtain ⟨b, hb⟩ : ∃ b, (sd (stds h) k).head = b := ⟨_, rfl⟩
      rw [ha, hb] at hap hE
      obtain ⟨p1, p2, p3⟩ := hap
      have q1 : ((a : Int) == (b : Int)) = false := by simp; omega
      have q2 : decide ((a : Int) < 0) = false := by simp
      have q3 : decide ((b : Int) < 0) = false := by simp
      have q4 : decide ((h.node.length : Int) ≤ (a : Int)) = false := by simp; omega
      have q5 : decide ((h.node.length : Int) ≤ (b : Int)) = false := by simp; omega
      have q6 : decide ((k : Int) < (C : Int)) = true := by simp; omega
      have HE : Hid (type_of% hE) := hE
      obtain ⟨c0, c1, c2, c3, c4⟩ := HF5.out wr HB.out
      clear hE
      go_wp2_with fail
      refine HE.out.mono ?_
      rintro e w5 ⟨rfl, hb5⟩
      have HB5 : Hid (Below W0.heap.size W0 w5) := btrH HB.out hb5
      obtain ⟨d0, d1, d2, d3, d4⟩ := HF5.out w5 HB5.out
      clear hb5 c0 c1 c2 c3 c4
      go_wp2_with fail
      have hLk := HLK.out w5 HB5.out k h1
      have hok : (linkAt h k).ok := by
        have hHH := (H0.out wr HB.out).2.1
        unfold linkAt
        rcases Nat.lt_or_ge k h.up.length with g | g
        · rw [List.getD_eq_getElem?_getD, List.getElem?_append_left g, List.getElem?_eq_getElem g]; exact hHH.up.ok _ (List.getElem_mem g)
        · rw [List.getD_eq_getElem?_getD, List.getElem?_append_right g, List.getElem?_eq_getElem (by omega)]; exact hHH.dn.ok _ (List.getElem_mem (by omega))
      have hlk := (link_ok HC.out.1 (i := k) (by have := HC.out.2; omega)).lk
      have HFL : Hid (∀ l, linkAt h k = l → l.plain = false → Falls h k ∧ (sd (stds h) k).lk = l) := fun l e hp => ⟨falls HC.out.1 (by have := HC.out.2; omega) (by rw [← hlk, e]; exact hp), by rw [← hlk, e]⟩
      obtain ⟨l, hl⟩ : ∃ l, linkAt h k = l := ⟨_, rfl⟩
      have HFF : Hid (l.plain = false → Falls h k ∧ (sd (stds h) k).lk = l) := HFL.out l hl
      rw [hl] at hLk hok
      clear hlk HFL hl
      refine hLk.mono ?_
      rintro e w6 ⟨rfl, hb6⟩
      have HB6 : Hid (Below W0.heap.size W0 w6) := btrH HB5.out hb6
      clear hb6 d0 d1 d2 d3 d4 hLk
      go_wp2_with fail
      obtain ⟨y, hy⟩ : ∃ y, w6.heap.size = y := ⟨_, rfl⟩
      obtain ⟨W6, hW6⟩ : ∃ W6, w6.alloc (.cells #[.int .u32 (l.hd : Int), .int .u64 (l.wt : Int), .int .u32 (l.lf : Int), .int .u32 (l.rt : Int)] 42) = W6 := ⟨_, rfl⟩
      have HQ9 : Hid (∀ wx, Below W6.heap.size W6 wx → wx.cell? ⟨y, 0, none⟩ = some (.int .u32 (l.hd : Int)) ∧ wx.cell? ⟨y, 1, none⟩ = some (.int .u64 (l.wt : Int)) ∧ wx.cell? ⟨y, 2, none⟩ = some (.int .u32 (l.lf : Int)) ∧ wx.cell? ⟨y, 3, none⟩ = some (.int .u32 (l.rt : Int)) ∧ Below W0.heap.size W0 wx) := fun wx hx => by
        have g1 : W6.heap[y]? = some (.cells #[.int .u32 (l.hd : Int), .int .u64 (l.wt : Int), .int .u32 (l.lf : Int), .int .u32 (l.rt : Int)] 42) := by rw [← hW6, ← hy]; exact heap_newW _ _
        have g2 : Below W0.heap.size W0 W6 := by rw [← hW6]; exact btrH HB6.out ((Below.refl _ _).alloc (Nat.le_refl _) _)
        have g3 := (hx.block _ (some_lt g1)).trans g1
        exact ⟨by simp [World.cell?, g3], by simp [World.cell?, g3], by simp [World.cell?, g3], by simp [World.cell?, g3], btrH g2 hx⟩
      rw [hW6, hy]
      clear hy hW6
      have hpl := tplain_calls l W6
      unfold lvl at hpl
      refine hpl.mono ?_
      rintro e w7 ⟨rfl, hb7⟩
      have HB7 : Hid (Below W6.heap.size W6 w7) := hb7
      clear hb7 hpl
      by_cases hp : l.plain = true
      · rw [hp]
        go_wp2
        go_roundw
        case rel => exact ⟨k + 1, by omega, by go_num, (HQ9.out w7 HB7.out).2.2.2.2⟩
        case measure => simp [intOf]; omega
      · have hp' : l.plain = false := by simpa using hp
        rw [hp']
        obtain ⟨hF, hlk⟩ := HFF.out hp'
        have l1 := hF.l1
        have l2 := hF.l2
        have t1 := hF.t1
        have t2 := hF.t2
        have m1 := hF.m1
        have m2 := hF.m2
        have m3 := hF.m3
        have wt := hF.wt
        have ws := hF.ws
        rw [hlk] at l1 l2 t1 t2 m1 m2 m3 wt ws
        rw [HC.out.2] at l1 l2
        rw [ha] at t1 m2
        rw [hb] at t2 m3
        obtain ⟨o1, o2, o3, o4⟩ := hok
        have x1 : IntKind.i64.wrap (l.lf : Int) = (l.lf : Int) := by rw [IntKind.wrap_i64]; omega
        have x2 : IntKind.i64.wrap (l.rt : Int) = (l.rt : Int) := by rw [IntKind.wrap_i64]; omega
        have x3 : decide ((C : Int) ≤ (l.lf : Int)) = false := by simp; omega
        have x4 : decide ((C : Int) ≤ (l.rt : Int)) = false := by simp; omega
        have x5 : decide (C ≤ l.lf) = false := by simp; omega
        have x6 : decide (C ≤ l.rt) = false := by simp; omega
        obtain ⟨m, hm⟩ : ∃ m, (sd (stds h) l.lf).head = m := ⟨_, rfl⟩
        rw [hm] at m1 m2 m3
        have x7 : decide ((a : Int) ≤ (m : Int)) = false := by simp; omega
        have x8 : decide ((b : Int) ≤ (m : Int)) = false := by simp; omega
        have x9 : decide (a ≤ m) = false := by simp; omega
        have xa : decide (b ≤ m) = false := by simp; omega
        have HE1 : Hid (∀ wx, Below W0.heap.size W0 wx → Calls Try.prog 16 #[.agg #[.slice v.no h.node.length v.nc, .slice v.uo h.upF.length v.uc, .slice v.ul h.up.length v.ulc, .slice v.wo h.dnF.length v.wc, .slice v.dl h.dn.length v.dlc], .int .i64 (l.lf : Int)] wx fun e w' => e = .returned (.tuple #[.int .i64 (a : Int), .int .i64 (m : Int), .nilIface]) ∧ Below wx.heap.size wx w') := fun wx hx => by
          have g := HEN.out wx hx l.lf l1
          rw [t1, hm] at g
          exact g
        have HE2 : Hid (∀ wx, Below W0.heap.size W0 wx → Calls Try.prog 16 #[.agg #[.slice v.no h.node.length v.nc, .slice v.uo h.upF.length v.uc, .slice v.ul h.up.length v.ulc, .slice v.wo h.dnF.length v.wc, .slice v.dl h.dn.length v.dlc], .int .i64 (l.rt : Int)] wx fun e w' => e = .returned (.tuple #[.int .i64 (m : Int), .int .i64 (b : Int), .nilIface]) ∧ Below wx.heap.size wx w') := fun wx hx => by
          have g := HEN.out wx hx l.rt l2
          rw [t2, ← m1] at g
          exact g
        obtain ⟨l8, hl8⟩ : ∃ l8, linkAt h l.lf = l8 := ⟨_, rfl⟩
        obtain ⟨l9, hl9⟩ : ∃ l9, linkAt h l.rt = l9 := ⟨_, rfl⟩
        rw [hl8, hl9] at wt
        have xb : IntKind.u64.wrap ((l8.wt : Int) + (l9.wt : Int)) = (l.wt : Int) := by rw [IntKind.wrap_u64]; omega
        have HL8 : Hid (∀ wx, Below W0.heap.size W0 wx → Calls Try.prog 17 #[.agg #[.slice v.no h.node.length v.nc, .slice v.uo h.upF.length v.uc, .slice v.ul h.up.length v.ulc, .slice v.wo h.dnF.length v.wc, .slice v.dl h.dn.length v.dlc], .int .i64 (l.lf : Int)] wx fun e w' => e = .returned (.agg #[.int .u32 (l8.hd : Int), .int .u64 (l8.wt : Int), .int .u32 (l8.lf : Int), .int .u32 (l8.rt : Int)]) ∧ Below wx.heap.size wx w') := fun wx hx => by
          have g := HLK.out wx hx l.lf l1
          rw [hl8] at g
          exact g
        have HL9 : Hid (∀ wx, Below W0.heap.size W0 wx → Calls Try.prog 17 #[.agg #[.slice v.no h.node.length v.nc, .slice v.uo h.upF.length v.uc, .slice v.ul h.up.length v.ulc, .slice v.wo h.dnF.length v.wc, .slice v.dl h.dn.length v.dlc], .int .i64 (l.rt : Int)] wx fun e w' => e = .returned (.agg #[.int .u32 (l9.hd : Int), .int .u64 (l9.wt : Int), .int .u32 (l9.lf : Int), .int .u32 (l9.rt : Int)]) ∧ Below wx.heap.size wx w') := fun wx hx => by
          have g := HLK.out wx hx l.rt l2
          rw [hl9] at g
          exact g
        have xf8 := field_wt (l8.hd : Int) (l8.wt : Int) (l8.lf : Int) (l8.rt : Int)
        have xf9 := field_wt (l9.hd : Int) (l9.wt : Int) (l9.lf : Int) (l9.rt : Int)
        clear wt ws hl8 hl9 hm t1 t2 m1 m2 m3 hlk
        have HQQ : Hid (∀ wx, Below W6.heap.size W6 wx → (wx.cell? ⟨z, 0, none⟩ = some (.slice v.no h.node.length v.nc) ∧ wx.cell? ⟨z, 1, none⟩ = some (.slice v.uo h.upF.length v.uc) ∧ wx.cell? ⟨z, 2, none⟩ = some (.slice v.ul h.up.length v.ulc) ∧ wx.cell? ⟨z, 3, none⟩ = some (.slice v.wo h.dnF.length v.wc) ∧ wx.cell? ⟨z, 4, none⟩ = some (.slice v.dl h.dn.length v.dlc)) ∧ wx.cell? ⟨y, 0, none⟩ = some (.int .u32 (l.hd : Int)) ∧ wx.cell? ⟨y, 1, none⟩ = some (.int .u64 (l.wt : Int)) ∧ wx.cell? ⟨y, 2, none⟩ = some (.int .u32 (l.lf : Int)) ∧ wx.cell? ⟨y, 3, none⟩ = some (.int .u32 (l.rt : Int))) := fun wx hx => ⟨HF5.out wx (HQ9.out wx hx).2.2.2.2, (HQ9.out wx hx).1, (HQ9.out wx hx).2.1, (HQ9.out wx hx).2.2.1, (HQ9.out wx hx).2.2.2.1⟩
        obtain ⟨⟨c0, c1, c2, c3, c4⟩, e0, e1, e2, e3⟩ := HQQ.out w7 HB7.out
        clear hF hp hp' q1 q2 q3 q4 q5 q6 o1 o2 o3 o4
        go_wp2_with fail
        go_region_held3 (fun w' => (w'.cell? ⟨z, 0, none⟩ = some (.slice v.no h.node.length v.nc) ∧ w'.cell? ⟨z, 1, none⟩ = some (.slice v.uo h.upF.length v.uc) ∧ w'.cell? ⟨z, 2, none⟩ = some (.slice v.ul h.up.length v.ulc) ∧ w'.cell? ⟨z, 3, none⟩ = some (.slice v.wo h.dnF.length v.wc) ∧ w'.cell? ⟨z, 4, none⟩ = some (.slice v.dl h.dn.length v.dlc)) ∧ w'.cell? ⟨y, 0, none⟩ = some (.int .u32 (l.hd : Int)) ∧ w'.cell? ⟨y, 1, none⟩ = some (.int .u64 (l.wt : Int)) ∧ w'.cell? ⟨y, 2, none⟩ = some (.int .u32 (l.lf : Int)) ∧ w'.cell? ⟨y, 3, none⟩ = some (.int .u32 (l.rt : Int))) (go_keep) (first
          | (go_at_call 15; refine (HCT.out _).mono ?_; rintro e y2 ⟨rfl, hy⟩; have Y2 : Hid (Below W6.heap.size W6 y2) := btrH Y1.out hy; obtain ⟨⟨z1, z2, z3, z4, z5⟩, z6, z7, z8, z9⟩ := HQQ.out y2 Y2.out; clear hy)
          | (go_at_call 15; refine (HCT.out _).mono ?_; rintro e y1 ⟨rfl, hy⟩; have Y1 : Hid (Below W6.heap.size W6 y1) := btrH HB7.out.drew hy; obtain ⟨⟨z1, z2, z3, z4, z5⟩, z6, z7, z8, z9⟩ := HQQ.out y1 Y1.out; clear hy))
        clear c0 c1 c2 c3 c4 e0 e1 e2 e3
        go_wp2_with fail
        refine (HE1.out y2 (HQ9.out y2 Y2.out).2.2.2.2).mono ?_
        rintro e w8 ⟨rfl, hb8⟩
        have HB8 : Hid (Below W6.heap.size W6 w8) := btrH Y2.out hb8
        clear hb8 z1 z2 z3 z4 z5 z6 z7 z8 z9
        obtain ⟨⟨c0, c1, c2, c3, c4⟩, e0, e1, e2, e3⟩ := HQQ.out w8 HB8.out
        go_wp2_with fail
        refine (HE2.out w8 (HQ9.out w8 HB8.out).2.2.2.2).mono ?_
        rintro e w9 ⟨rfl, hb9⟩
        have HB9 : Hid (Below W6.heap.size W6 w9) := btrH HB8.out hb9
        clear hb9 c0 c1 c2 c3 c4 e0 e1 e2 e3
        obtain ⟨⟨c0, c1, c2, c3, c4⟩, e0, e1, e2, e3⟩ := HQQ.out w9 HB9.out
        go_wp2_with fail
        go_region_held3 (fun w' => (w'.cell? ⟨z, 0, none⟩ = some (.slice v.no h.node.length v.nc) ∧ w'.cell? ⟨z, 1, none⟩ = some (.slice v.uo h.upF.length v.uc) ∧ w'.cell? ⟨z, 2, none⟩ = some (.slice v.ul h.up.length v.ulc) ∧ w'.cell? ⟨z, 3, none⟩ = some (.slice v.wo h.dnF.length v.wc) ∧ w'.cell? ⟨z, 4, none⟩ = some (.slice v.dl h.dn.length v.dlc)) ∧ w'.cell? ⟨y, 0, none⟩ = some (.int .u32 (l.hd : Int)) ∧ w'.cell? ⟨y, 1, none⟩ = some (.int .u64 (l.wt : Int)) ∧ w'.cell? ⟨y, 2, none⟩ = some (.int .u32 (l.lf : Int)) ∧ w'.cell? ⟨y, 3, none⟩ = some (.int .u32 (l.rt : Int))) (go_keep) (first
          | (go_at_call 17; refine (HL9.out _ (HQ9.out _ Y3.out).2.2.2.2).mono ?_; rintro e y4 ⟨rfl, hy⟩; have Y4 : Hid (Below W6.heap.size W6 y4) := btrH Y3.out hy; obtain ⟨⟨z1, z2, z3, z4, z5⟩, z6, z7, z8, z9⟩ := HQQ.out y4 Y4.out; clear hy)
          | (go_at_call 17; refine (HL8.out _ (HQ9.out _ HB9.out.drew).2.2.2.2).mono ?_; rintro e y3 ⟨rfl, hy⟩; have Y3 : Hid (Below W6.heap.size W6 y3) := btrH HB9.out.drew hy; obtain ⟨⟨z1, z2, z3, z4, z5⟩, z6, z7, z8, z9⟩ := HQQ.out y3 Y3.out; clear hy))
        clear z1 z2 z3 z4 z5 z6 z7 z8 z9 c0 c1 c2 c3 c4 e0 e1 e2 e3
        go_wp2
        go_roundw
        case rel => exact ⟨k + 1, by omega, by go_num, (HQ9.out y4 Y4.out).2.2.2.2⟩
        case measure => simp [intOf]; omega
    · subst h1
      obtain ⟨c0, c1, c2, c3, c4⟩ := HF5.out wr HB.out
      go_wp2_with fail
      refine (HRK.out wr HB.out).mono ?_
      rintro e w5 ⟨ro, rc, rfl, hI, hb5⟩
      have HB5 : Hid (Below W0.heap.size W0 w5) := btrH HB.out hb5
      have HI5 : Hid (∀ wx, Below w5.heap.size w5 wx → HasInts wx (.slice ro h.node.length rc) (intsL (rkM h.node)) ∧ Below W0.heap.size W0 wx) := fun wx hx => ⟨hI.keep hx, btrH HB5.out hx⟩
      clear hI hb5 c0 c1 c2 c3 c4
      obtain ⟨c0, c1, c2, c3, c4⟩ := HF5.out w5 HB5.out
      obtain ⟨n, hn⟩ : ∃ n, h.node.length = n := ⟨_, rfl⟩
      have hn9 : n ≤ 65536 := by rw [← hn]; exact HLEN.out.1
      have HN : Hid (h.node.length = n) := hn
      rw [hn] at c0 HI5
      simp only [hn]
      clear c1 c2 c3 c4 hn
      go_wp2_with fail
      go_loopw [172] (fun iv wr => ∃ k : Nat, k ≤ n ∧ iv = .int .i64 k ∧ Hid (Below w5.heap.size w5 wr)) (fun iv _ => n - (intOf iv).toNat)
      case atStart => exact ⟨0, Nat.zero_le _, rfl, Below.refl _ _⟩
      case round =>
        obtain ⟨j, hj, rfl, HJ⟩ := hrel
        rename_i wr2
        rcases Nat.lt_or_eq_of_le hj with h1 | h1
        · obtain ⟨hI9, hB9⟩ := HI5.out _ HJ.out
          have hNd := (H0.out _ hB9).2.1.node
          rw [HN.out] at hNd
          obtain ⟨b, off, e1, hbl, hcc⟩ := hNd.cells (by omega)
          have ck := hcc j h1
          obtain ⟨x, hx⟩ : ∃ x, nth h.node j = x := ⟨_, rfl⟩
          have hxn : x < n := by have := (cn_ok HLEN.out.2.2 (k := j) (by rw [HN.out]; exact h1)).1; rw [hx, HN.out] at this; exact this
          have hun : (intsL (rkM h.node))[x]? = some (j : Int) := by unfold intsL; rw [List.getElem?_map, ← hx, rkM_undo HLEN.out.2.2 (by rw [HN.out]; exact h1)]; rfl
          obtain ⟨b2, off2, e2, hbl2, cx⟩ := hI9.at hun
          rw [hx] at ck
          have HX : Hid (v.no = some ⟨b, off, none⟩ ∧ ro = some ⟨b2, off2, none⟩) := ⟨e1, e2⟩
          subst e2
          rw [e1]
          have i1 : (j : Int) < (n : Int) := by omega
          have i2 : (0 : Int) ≤ (j : Int) := by omega
          have i3 : (x : Int) < (n : Int) := by omega
          have i4 : (0 : Int) ≤ (x : Int) := by omega
          have i5 : decide ((n : Int) ≤ (x : Int)) = false := by simp; omega
          have i6 : decide (n ≤ x) = false := by simp; omega
          have i7 : IntKind.i64.wrap (x : Int) = (x : Int) := by rw [IntKind.wrap_i64]; omega
          clear hcc hNd hun hI9 hB9 hx e1
          go_wp2
          go_roundw
          case rel => exact ⟨j + 1, by omega, by go_num, HJ.out⟩
          case measure => simp [intOf]; omega
        · subst h1
          go_wp2
          go_ret
          exact ⟨rfl, (H0.out _ (HI5.out _ HJ.out).2).2.2⟩
end Go.Proofs.Ytmofokjkfmgglaa.Hi
