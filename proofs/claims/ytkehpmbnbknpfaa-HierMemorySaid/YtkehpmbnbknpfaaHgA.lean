/- Twin, Turn, Graph, Ranks told with what may be written of their answers, and where it lies. (genma.py) -/
import Derived.Test.YtkehpmbnbknpfaaHeX
import Derived.Test.YtkehpmbnbknpfaaHeF
import Derived.Test.YtkehpmbnbknpfaaGrX
namespace Go.Proofs.Ytkehpmbnbknpfaa.Hi
open Go.RowKit Go.Extern Go.Sort Go.Shelf

attribute [local go_sem] Oper.semAt_some

/-- m cells from an address on may be written. -/
def Wr (w : World) (lo : Option Addr) (m : Nat) : Prop := ∀ b o, lo = some ⟨b, o, none⟩ → ∀ j, j < m → (∃ v, w.cell? ⟨b, o + j, none⟩ = some v) ∧ w.frozen? ⟨b, o + j, none⟩ = false
set_option maxRecDepth 100000 in
set_option maxHeartbeats 4000000 in
theorem twin_own (v : HV) (h : Hr) (w : World) (hH : HasH w v h) (hr : Reach h) :
    Calls Try.prog 6 #[hvl v h] w fun e w' => ∃ u, e = .returned (hvl u h) ∧ OwnH w' w.heap.size u h ∧ Below w.heap.size w w' := by
  obtain ⟨z, hz⟩ : ∃ z, w.heap.size = z := ⟨_, rfl⟩
  obtain ⟨W0, hW0⟩ : ∃ W0, (w.alloc (.cells (cellsH v h) 25)).alloc (.cells #[.slice none 0 0, .slice none 0 0, .slice none 0 0, .slice none 0 0, .slice none 0 0] 25) = W0 := ⟨_, rfl⟩
  have hB0 : Below w.heap.size w W0 := by rw [← hW0]; exact ((Below.refl _ w).alloc (Nat.le_refl _) _).alloc (by simp) _
  have h0 : W0.heap[z]? = some (.cells (cellsH v h) 25) := by
    rw [← hW0, ← hz]; exact (Below.heap_alloc _ _ _ (by simp)).trans (heap_newW _ _)
  have h1 : W0.heap[z + 1]? = some (.cells #[.slice none 0 0, .slice none 0 0, .slice none 0 0, .slice none 0 0, .slice none 0 0] 25) := by
    have g := heap_newW (w.alloc (.cells (cellsH v h) 25)) (.cells #[.slice none 0 0, .slice none 0 0, .slice none 0 0, .slice none 0 0, .slice none 0 0] 25)
    rw [World.size_alloc, hW0, hz] at g
    exact g
  have HB0 : Hid (∀ wx, Below W0.heap.size W0 wx → Below w.heap.size w wx ∧ wx.heap[z + 1]? = some (.cells #[.slice none 0 0, .slice none 0 0, .slice none 0 0, .slice none 0 0, .slice none 0 0] 25)) := fun wx hx => ⟨hB0.trans (hx.mono hB0.size), (hx.block _ (some_lt h1)).trans h1⟩
  have HQ : Hid (∀ wx, Below W0.heap.size W0 wx → wx.cell? ⟨z, 0, none⟩ = some (.slice v.no h.node.length v.nc) ∧ wx.cell? ⟨z, 1, none⟩ = some (.slice v.uo h.upF.length v.uc) ∧ wx.cell? ⟨z, 2, none⟩ = some (.slice v.ul h.up.length v.ulc) ∧ wx.cell? ⟨z, 3, none⟩ = some (.slice v.wo h.dnF.length v.wc) ∧ wx.cell? ⟨z, 4, none⟩ = some (.slice v.dl h.dn.length v.dlc)) := fun wx hx => five_cells ((hx.block _ (some_lt h0)).trans h0)
  have HZ : Hid (∀ wx, Below W0.heap.size W0 wx → (∀ i, i < 5 → wx.cell? ⟨z + 1, i, none⟩ = some (.slice none 0 0)) ∧ ∀ i, wx.frozen? ⟨z + 1, i, none⟩ = false) := fun wx hx => by
    have g := (hx.block _ (some_lt h1)).trans h1
    refine ⟨fun i hi => ?_, fun i => by simp [World.frozen?, g]⟩
    rcases (show i = 0 ∨ i = 1 ∨ i = 2 ∨ i = 3 ∨ i = 4 by omega) with rfl | rfl | rfl | rfl | rfl <;> simp [World.cell?, g]
  have H1 : Hid (∀ wx, Below W0.heap.size W0 wx → Calls Try.prog 21 #[.slice v.no h.node.length v.nc] wx fun e w' => ∃ mo mc, e = .returned (.slice mo h.node.length mc) ∧ w'.ownsRow W0.heap.size 43 1 (.slice mo h.node.length mc) h.node.length (wvs h.node) ∧ Below wx.heap.size wx w') := fun wx hx => (twords_calls _ _ _ wx (hH.node.keep (hB0.trans (hx.mono hB0.size))) hr.node).mono (by rintro e w' ⟨mo, mc, rfl, ho, hb⟩; exact ⟨mo, mc, rfl, own_lowO ho hx.size, hb⟩)
  have H2 : Hid (∀ wx, Below W0.heap.size W0 wx → Calls Try.prog 21 #[.slice v.uo h.upF.length v.uc] wx fun e w' => ∃ mo mc, e = .returned (.slice mo h.upF.length mc) ∧ w'.ownsRow W0.heap.size 43 1 (.slice mo h.upF.length mc) h.upF.length (wvs h.upF) ∧ Below wx.heap.size wx w') := fun wx hx => (twords_calls _ _ _ wx (hH.upF.keep (hB0.trans (hx.mono hB0.size))) hr.upF).mono (by rintro e w' ⟨mo, mc, rfl, ho, hb⟩; exact ⟨mo, mc, rfl, own_lowO ho hx.size, hb⟩)
  have H3 : Hid (∀ wx, Below W0.heap.size W0 wx → Calls Try.prog 22 #[.slice v.ul h.up.length v.ulc] wx fun e w' => ∃ mo mc, e = .returned (.slice mo h.up.length mc) ∧ w'.ownsRow W0.heap.size 47 4 (.slice mo h.up.length mc) h.up.length (lvs h.up) ∧ Below wx.heap.size wx w') := fun wx hx => (tlinks_calls _ _ _ wx (hH.up.keep (hB0.trans (hx.mono hB0.size))) hr.up).mono (by rintro e w' ⟨mo, mc, rfl, ho, hb⟩; exact ⟨mo, mc, rfl, own_lowO ho hx.size, hb⟩)
  have H4 : Hid (∀ wx, Below W0.heap.size W0 wx → Calls Try.prog 21 #[.slice v.wo h.dnF.length v.wc] wx fun e w' => ∃ mo mc, e = .returned (.slice mo h.dnF.length mc) ∧ w'.ownsRow W0.heap.size 43 1 (.slice mo h.dnF.length mc) h.dnF.length (wvs h.dnF) ∧ Below wx.heap.size wx w') := fun wx hx => (twords_calls _ _ _ wx (hH.dnF.keep (hB0.trans (hx.mono hB0.size))) hr.dnF).mono (by rintro e w' ⟨mo, mc, rfl, ho, hb⟩; exact ⟨mo, mc, rfl, own_lowO ho hx.size, hb⟩)
  have H5 : Hid (∀ wx, Below W0.heap.size W0 wx → Calls Try.prog 22 #[.slice v.dl h.dn.length v.dlc] wx fun e w' => ∃ mo mc, e = .returned (.slice mo h.dn.length mc) ∧ w'.ownsRow W0.heap.size 47 4 (.slice mo h.dn.length mc) h.dn.length (lvs h.dn) ∧ Below wx.heap.size wx w') := fun wx hx => (tlinks_calls _ _ _ wx (hH.dn.keep (hB0.trans (hx.mono hB0.size))) hr.dn).mono (by rintro e w' ⟨mo, mc, rfl, ho, hb⟩; exact ⟨mo, mc, rfl, own_lowO ho hx.size, hb⟩)
  have HW0 : Hid ((w.alloc (.cells (cellsH v h) 25)).alloc (.cells #[.slice none 0 0, .slice none 0 0, .slice none 0 0, .slice none 0 0, .slice none 0 0] 25) = W0) := hW0
  clear hW0 h0 h1 hB0 hH hr
  have Y0 : Hid (Below W0.heap.size W0 W0) := Below.refl _ _
  obtain ⟨a0, a1, a2, a3, a4⟩ := HQ.out W0 Y0.out
  have HZZ : Hid (w.heap.size = z) := hz
  unfold cellsH at HW0
  unfold hvl
  go_enter Try.func6, Try.ntmps6
  go_upto_region 1 with fail
  rw [HW0.out]
  go_region_held3 (fun w' => w'.cell? ⟨z, 0, none⟩ = some (.slice v.no h.node.length v.nc) ∧ w'.cell? ⟨z, 1, none⟩ = some (.slice v.uo h.upF.length v.uc) ∧ w'.cell? ⟨z, 2, none⟩ = some (.slice v.ul h.up.length v.ulc) ∧ w'.cell? ⟨z, 3, none⟩ = some (.slice v.wo h.dnF.length v.wc) ∧ w'.cell? ⟨z, 4, none⟩ = some (.slice v.dl h.dn.length v.dlc)) (go_keep) (first
    | (go_at_call 22; refine (H5.out _ Y4.out).mono ?_; rintro e y5 ⟨m5, c5, rfl, hh, hy⟩; have Y5 : Hid (Below W0.heap.size W0 y5) := btrH' Y4.out hy; have X5_1 : Hid (y5.ownsRow W0.heap.size 43 1 (.slice m1 h.node.length c1) h.node.length (wvs h.node)) := own_upO X4_1.out hy; have X5_2 : Hid (y5.ownsRow W0.heap.size 43 1 (.slice m2 h.upF.length c2) h.upF.length (wvs h.upF)) := own_upO X4_2.out hy; have X5_3 : Hid (y5.ownsRow W0.heap.size 47 4 (.slice m3 h.up.length c3) h.up.length (lvs h.up)) := own_upO X4_3.out hy; have X5_4 : Hid (y5.ownsRow W0.heap.size 43 1 (.slice m4 h.dnF.length c4) h.dnF.length (wvs h.dnF)) := own_upO X4_4.out hy; have X5_5 : Hid (y5.ownsRow W0.heap.size 47 4 (.slice m5 h.dn.length c5) h.dn.length (lvs h.dn)) := hh; obtain ⟨a0, a1, a2, a3, a4⟩ := HQ.out y5 Y5.out; obtain ⟨k0, k1⟩ := HZ.out y5 Y5.out; have k2 := k0 0 (by omega); have k3 := k0 1 (by omega); have k4 := k0 2 (by omega); have k5 := k0 3 (by omega); have k6 := k0 4 (by omega); have l2 := k1 0; have l3 := k1 1; have l4 := k1 2; have l5 := k1 3; have l6 := k1 4; clear k0 k1; clear hy hh)
    | (go_at_call 21; refine (H4.out _ Y3.out).mono ?_; rintro e y4 ⟨m4, c4, rfl, hh, hy⟩; have Y4 : Hid (Below W0.heap.size W0 y4) := btrH' Y3.out hy; have X4_1 : Hid (y4.ownsRow W0.heap.size 43 1 (.slice m1 h.node.length c1) h.node.length (wvs h.node)) := own_upO X3_1.out hy; have X4_2 : Hid (y4.ownsRow W0.heap.size 43 1 (.slice m2 h.upF.length c2) h.upF.length (wvs h.upF)) := own_upO X3_2.out hy; have X4_3 : Hid (y4.ownsRow W0.heap.size 47 4 (.slice m3 h.up.length c3) h.up.length (lvs h.up)) := own_upO X3_3.out hy; have X4_4 : Hid (y4.ownsRow W0.heap.size 43 1 (.slice m4 h.dnF.length c4) h.dnF.length (wvs h.dnF)) := hh; obtain ⟨a0, a1, a2, a3, a4⟩ := HQ.out y4 Y4.out; clear hy hh)
    | (go_at_call 22; refine (H3.out _ Y2.out).mono ?_; rintro e y3 ⟨m3, c3, rfl, hh, hy⟩; have Y3 : Hid (Below W0.heap.size W0 y3) := btrH' Y2.out hy; have X3_1 : Hid (y3.ownsRow W0.heap.size 43 1 (.slice m1 h.node.length c1) h.node.length (wvs h.node)) := own_upO X2_1.out hy; have X3_2 : Hid (y3.ownsRow W0.heap.size 43 1 (.slice m2 h.upF.length c2) h.upF.length (wvs h.upF)) := own_upO X2_2.out hy; have X3_3 : Hid (y3.ownsRow W0.heap.size 47 4 (.slice m3 h.up.length c3) h.up.length (lvs h.up)) := hh; obtain ⟨a0, a1, a2, a3, a4⟩ := HQ.out y3 Y3.out; clear hy hh)
    | (go_at_call 21; refine (H2.out _ Y1.out).mono ?_; rintro e y2 ⟨m2, c2, rfl, hh, hy⟩; have Y2 : Hid (Below W0.heap.size W0 y2) := btrH' Y1.out hy; have X2_1 : Hid (y2.ownsRow W0.heap.size 43 1 (.slice m1 h.node.length c1) h.node.length (wvs h.node)) := own_upO X1_1.out hy; have X2_2 : Hid (y2.ownsRow W0.heap.size 43 1 (.slice m2 h.upF.length c2) h.upF.length (wvs h.upF)) := hh; obtain ⟨a0, a1, a2, a3, a4⟩ := HQ.out y2 Y2.out; clear hy hh)
    | (go_at_call 21; refine (H1.out _ Y0.out.drew).mono ?_; rintro e y1 ⟨m1, c1, rfl, hh, hy⟩; have Y1 : Hid (Below W0.heap.size W0 y1) := btrH' Y0.out.drew hy; have X1_1 : Hid (y1.ownsRow W0.heap.size 43 1 (.slice m1 h.node.length c1) h.node.length (wvs h.node)) := hh; obtain ⟨a0, a1, a2, a3, a4⟩ := HQ.out y1 Y1.out; clear hy hh))
  go_wp2
  have hS := set_five (HB0.out _ Y5.out).2 (.slice m1 h.node.length c1) (.slice m2 h.upF.length c2) (.slice m3 h.up.length c3) (.slice m4 h.dnF.length c4) (.slice m5 h.dn.length c5)
  obtain ⟨hf1, hf2⟩ := five_far y5 (z + 1) (.slice m1 h.node.length c1) (.slice m2 h.upF.length c2) (.slice m3 h.up.length c3) (.slice m4 h.dnF.length c4) (.slice m5 h.dn.length c5)
  have hlt : z + 1 < W0.heap.size := some_lt (HB0.out _ Y0.out).2
  have hbb : Below w.heap.size w (((((y5.setCell ⟨z + 1, 0, none⟩ (.slice m1 h.node.length c1)).setCell ⟨z + 1, 1, none⟩ (.slice m2 h.upF.length c2)).setCell ⟨z + 1, 2, none⟩ (.slice m3 h.up.length c3)).setCell ⟨z + 1, 3, none⟩ (.slice m4 h.dnF.length c4)).setCell ⟨z + 1, 4, none⟩ (.slice m5 h.dn.length c5)) := (((((HB0.out _ Y5.out).1.setCell (by rw [HZZ.out]; exact Nat.le_succ _) _).setCell (by rw [HZZ.out]; exact Nat.le_succ _) _).setCell (by rw [HZZ.out]; exact Nat.le_succ _) _).setCell (by rw [HZZ.out]; exact Nat.le_succ _) _).setCell (by rw [HZZ.out]; exact Nat.le_succ _) _
  refine bodyPost_ret (twin_res hS rfl) rfl ⟨⟨m1, m2, m3, m4, m5, c1, c2, c3, c4, c5⟩, rfl, ?_, hbb⟩
  generalize ((((y5.setCell ⟨z + 1, 0, none⟩ (.slice m1 h.node.length c1)).setCell ⟨z + 1, 1, none⟩ (.slice m2 h.upF.length c2)).setCell ⟨z + 1, 2, none⟩ (.slice m3 h.up.length c3)).setCell ⟨z + 1, 3, none⟩ (.slice m4 h.dnF.length c4)).setCell ⟨z + 1, 4, none⟩ (.slice m5 h.dn.length c5) = WE at hf1 hf2
  have hs : y5.heap.size ≤ WE.heap.size := Nat.le_of_eq hf2.symm
  have kp : ∀ {T : TypeId} {zz n : Nat} {vv : Value} {xs : List Value}, y5.ownsRow W0.heap.size T zz vv n xs → WE.ownsRow w.heap.size T zz vv n xs := fun ho => own_lowO (own_keep ho fun k cur hk hh => (hf1 k (by have := ho.lt k hk; omega)).trans hh) (by have := HZZ.out; omega)
  exact ⟨kp X5_1.out, kp X5_2.out, kp X5_3.out, kp X5_4.out, kp X5_5.out⟩
theorem OwnH.has {w : World} {B : Nat} {u : HV} {h : Hr} (g : OwnH w B u h) (h1 : ∀ x ∈ h.node, x < 4294967296) (h2 : ∀ x ∈ h.upF, x < 4294967296) (h3 : ∀ l ∈ h.up, l.ok) (h4 : ∀ x ∈ h.dnF, x < 4294967296) (h5 : ∀ l ∈ h.dn, l.ok) : HasH w u h :=
  ⟨ws_of_own g.node h1, ws_of_own g.upF h2, ls_of_own g.up h3, ws_of_own g.dnF h4, ls_of_own g.dn h5⟩
theorem OwnH.has_of {w w' : World} {B : Nat} {u u' : HV} {h : Hr} (g : OwnH w B u h) (k : HasH w' u' h) : HasH w u h := g.has k.node.ok k.upF.ok k.up.ok k.dnF.ok k.dn.ok
theorem OwnH.nil (w : World) (B : Nat) : OwnH w B noV noH := ⟨World.ownsRow_nil _ _ _ _, World.ownsRow_nil _ _ _ _, World.ownsRow_nil _ _ _ _, World.ownsRow_nil _ _ _ _, World.ownsRow_nil _ _ _ _⟩
theorem turn_own (v : HV) (h : Hr) (w : World) (hH : HasH w v h) (hb1 : h.up.length ≤ 1152921504606846976) (hb2 : h.dn.length ≤ 1152921504606846976) (hb3 : h.node.length ≤ 1152921504606846976) :
    Calls Try.prog 7 #[hvl v h] w fun e w' => ∃ u H g, TAns h H ∧ e = .returned (.tuple #[hvl u H, g]) ∧ HasH w' u H ∧ OwnH w' w.heap.size u H ∧ Below w.heap.size w w' := by
  by_cases hc : chk h = (0, [])
  · refine (turn_ok hH hc).mono ?_
    rintro e w' ⟨u, rfl, hu, ho, hb⟩
    exact ⟨u, _, _, Or.inl ⟨hc, rfl⟩, rfl, hu, ho, hb⟩
  · refine (turn_badT v h w hH hb1 hb2 hb3 hc).mono ?_
    rintro e w' ⟨T, x, rfl, ht, hb⟩
    exact ⟨noV, noH, _, Or.inr ⟨hc, rfl⟩, rfl, no_has _, OwnH.nil _ _, hb⟩
theorem sort_ownF {w : World} {B : Nat} {u : Value} {L : List (Int × Int × Int)} (h : w.ownsRow B 49 3 u L.length (flatA L)) (hl : L.length ≤ 1048576) :
    ∃ lo c, u = .slice lo L.length c ∧ (∀ a, lo = some a → B ≤ a.block ∧ ∃ cur, w.heap[a.block]? = some (.cells cur 49)) ∧ Calls Try.prog 30 #[u, .func (.func 31) #[] #[]] w fun e w' => e = .returned (.tuple #[]) ∧ (HasArcs w' u (sortE L) ∧ Wr w' lo (L.length * 3)) ∧ w.heap.size ≤ w'.heap.size ∧ w'.os = w.os ∧ w'.tape = w.tape ∧ w'.output = w.output ∧ ∀ k, k < w.heap.size → (∀ a, lo = some a → a.block ≠ k) → w'.heap[k]? = w.heap[k]? := by
  rcases h.2 with ⟨rfl, h0⟩ | ⟨g, cap, cur, rfl, hb, hh, hcap, _⟩
  · have : L = [] := List.eq_nil_of_length_eq_zero h0
    subst this
    refine ⟨none, 0, rfl, fun a e => (by cases e), (sort_nil w).mono ?_⟩
    rintro e w' ⟨rfl, hb⟩
    exact ⟨rfl, ⟨by rw [sortE_nil]; exact ⟨none, 0, rfl, fun j a hj => by simp at hj⟩, fun b o e => by cases e⟩, hb.size, hb.os, hb.tape, hb.output, fun k hk _ => hb.block _ hk⟩
  · refine ⟨_, cap, rfl, fun a e => by cases e; exact ⟨hb, cur, hh⟩, ?_⟩
    have hH := holds_of_row rfl h
    have := sortG_calls g cap L.toArray w hH (some_lt hh) (by simp; omega)
    simp only [List.size_toArray] at this
    refine this.mono ?_
    rintro e w' ⟨rfl, hH', ht⟩
    refine ⟨rfl, ?_, ht.size, ht.os, ht.tape, ht.output, fun k hk hn => ht.block _ hk (fun e => hn _ rfl e.symm)⟩
    have ha := arcs_holds (cap := cap) hH' (Nat.lt_of_lt_of_le (some_lt hh) ht.size)
    have hsz : (pdq (ltOf endsI) L.toArray 0 L.length (Lib.bitLen L.length) true true).size = L.length := by
      have := sortE_len L
      unfold sortE at this
      simpa using this
    rw [hsz] at ha
    refine ⟨by unfold sortE; simpa using ha, fun b o ea j hj => ?_⟩
    cases ea
    have q := hH' j (by rw [size_flatK, hsz]; exact hj)
    exact ⟨⟨_, q.1⟩, q.2⟩
set_option maxRecDepth 100000 in
set_option maxHeartbeats 8000000 in
theorem graph_callsF (v : HV) (h : Hr) (w : World) (hH : HasH w v h) (hb1 : h.up.length ≤ 1152921504606846976) (hb2 : h.dn.length ≤ 1152921504606846976) (hb3 : h.node.length ≤ 1152921504606846976) :
    Calls Try.prog 8 #[hvl v h] w fun e w' => ∃ N lo k c u L, e = .returned (.tuple #[.agg #[.int .i64 N, .slice lo k c], u]) ∧ Below w.heap.size w w' ∧ HasArcs w' (.slice lo k c) L ∧ (Wr w' lo (L.length * 3) ∧ ∀ a, lo = some a → w.heap.size ≤ a.block ∧ a.block < w'.heap.size) ∧
      ((chk h = (0, []) ∧ N = (h.node.length : Int) ∧ L = sortE (gArcs h (stds h)) ∧ u = .nilIface) ∨ (chk h ≠ (0, []) ∧ N = 0 ∧ L = [] ∧ IsTold w' (chk h) u)) := by
  refine (callsIn_wide (n := 5)).1 (callsIn_of_wp_marks Try.func8 rfl trivial (wpIn_wide.2 (wp_quiet ?_)) rfl)
  obtain ⟨z, hz⟩ : ∃ z, w.heap.size = z := ⟨_, rfl⟩
  have HZ : Hid (w.heap.size = z) := hz
  have HH : Hid (HasH w v h) := hH
  obtain ⟨W0, hW0⟩ : ∃ W0, (w.alloc (.cells (cellsH v h) 25)).alloc (.cells #[.int .i64 0, .slice none 0 0] 35) = W0 := ⟨_, rfl⟩
  have hE0 : W0.heap[z]? = some (.cells (cellsH v h) 25) ∧ W0.heap[z + 1]? = some (.cells #[.int .i64 0, .slice none 0 0] 35) ∧ Below z w W0 := by
    rw [← hW0, ← hz]
    refine ⟨(Below.heap_alloc _ _ _ (by simp)).trans (heap_newW _ _), ?_, ((Below.refl _ _).alloc (Nat.le_refl _) _).alloc (by simp) _⟩
    have g := heap_newW (w.alloc (.cells (cellsH v h) 25)) (.cells #[.int .i64 0, .slice none 0 0] 35)
    rw [World.size_alloc] at g
    exact g
  have hs0 : W0.heap.size = z + 1 + 1 := by rw [← hW0]; simp [hz]
  have HW0 : Hid ((w.alloc (.cells (cellsH v h) 25)).alloc (.cells #[.int .i64 0, .slice none 0 0] 35) = W0) := hW0
  have HE0 : Hid (W0.heap[z]? = some (.cells (cellsH v h) 25) ∧ W0.heap[z + 1]? = some (.cells #[.int .i64 0, .slice none 0 0] 35) ∧ Below z w W0) := hE0
  have HCK : Hid (Calls Try.prog 19 #[hvl v h] W0 fun e w' => ∃ u, e = .returned u ∧ IsTold w' (chk h) u ∧ Below W0.heap.size W0 w') := check_calls v h W0 (hH.keep (by rw [hz]; exact hE0.2.2)) hb1 hb2 hb3
  obtain ⟨c0, c1, c2, c3, c4⟩ := five_cells hE0.1
  clear hW0 hE0 hH
  unfold hvl at HCK ⊢
  unfold cellsH at HW0
  simp only [List.size_toArray, List.length_cons, List.length_nil, Try.ntmps8, Nat.reduceAdd, Nat.reduceSub, Array.replicate_succ, Array.replicate_zero, List.push_toArray, List.append_toArray, List.nil_append, List.cons_append]
  go_upto_region 1 with fail
  rw [HW0.out]
  by_cases hck : chk h = (0, [])
  · obtain ⟨k1, k2, k3, k4, k5, k6, k7, k8⟩ := chk_ok hck
    have HK : Hid (h.node.length ≤ 65536 ∧ h.up.length + h.dn.length ≤ 1048576 ∧ h.upF.length = h.node.length + 1 ∧ h.dnF.length = h.node.length + 1 ∧ FOk h.upF h.up.length ∧ FOk h.dnF h.dn.length) := ⟨k1, k2, k3, k4, k5, k6⟩
    have HCL : Hid (cl h.node.length (stds h) = (0, [])) := k8
    have HC : Hid (chk h = (0, [])) := hck
    rw [hck] at HCK
    clear hck k1 k2 k3 k4 k5 k6 k7 k8
    go_wp2_with (first | (go_at_call 19; refine HCK.out.mono ?_; rintro e w1 ⟨u, rfl, htu, hbu⟩; have hu0 := isTold_nil htu; subst hu0; have HE1 : Hid ((w1.heap[z]? = some (.cells (cellsH v h) 25) ∧ w1.heap[z + 1]? = some (.cells #[.int .i64 0, .slice none 0 0] 35) ∧ Below z w w1) ∧ z + 1 < w1.heap.size) := ⟨⟨(hbu.block _ (by omega)).trans HE0.out.1, (hbu.block _ (by omega)).trans HE0.out.2.1, HE0.out.2.2.trans (hbu.mono (by omega))⟩, by have := hbu.size; omega⟩; obtain ⟨k0, k1, k2, k3, k4⟩ := five_cells HE1.out.1.1; have hz1 : z < w1.heap.size := (by have := HE1.out.2; omega); clear htu hbu) | (go_at_call 26; refine (links_calls v h _).mono ?_; rintro e w' ⟨rfl, rfl⟩))
    obtain ⟨y, hy⟩ : ∃ y, w1.heap.size = y := ⟨_, rfl⟩
    have hyz : z + 1 < y := by have := HE1.out.2; omega
    have hI0 : GRI w v h z y [] ((w1.alloc (.cells #[.slice none 0 0] 33)).alloc (.cells (cellsH v h) 25)) := by
      have hb : Below w1.heap.size w1 ((w1.alloc (.cells #[.slice none 0 0] 33)).alloc (.cells (cellsH v h) 25)) := ((Below.refl _ _).alloc (Nat.le_refl _) _).alloc (by simp) _
      refine ⟨⟨.slice none 0 0, ?_, World.ownsRow_nil _ _ _ _⟩, (hb.block _ (by omega)).trans HE1.out.1.2.1, (hb.block _ (by omega)).trans HE1.out.1.1, ?_, HE1.out.1.2.2.trans (hb.mono (by omega)), by simp; omega⟩
      · have g := (Boxed.new w1 33 (.slice none 0 0)).alloc (.cells (cellsH v h) 25)
        rw [hy] at g
        exact g
      · have g := heap_newW (w1.alloc (.cells #[.slice none 0 0] 33)) (.cells (cellsH v h) 25)
        rw [World.size_alloc, hy] at g
        exact g
    have hs1 : ((w1.alloc (.cells #[.slice none 0 0] 33)).alloc (.cells (cellsH v h) 25)).heap.size = y + 1 + 1 := by simp [hy]
    generalize (w1.alloc (.cells #[.slice none 0 0] 33)).alloc (.cells (cellsH v h) 25) = W2 at *
    rw [hy]
    clear hy c0 c1 c2 c3 c4 k0 k1 k2 k3 k4
    have HSO : Hid (∀ s ∈ stds h, s.ok) := stds_ok HK.out.2.2.2.2.1 HK.out.2.2.2.2.2 (by have := HK.out.2.2.1; have := HK.out.1; omega) (by have := HK.out.2.2.2.1; have := HK.out.1; omega) HH.out.up.ok HH.out.dn.ok
    have HSL : Hid ((stds h).length ≤ 1048576) := by show _ ≤ _; rw [stds_len HK.out.2.2.2.2.1 HK.out.2.2.2.2.2]; exact HK.out.2.1
    have HI : AbT TnI W2.heap.size (fun (p : List (Nat × Sd)) Wc => GRI w v h z y p Wc) := by
      rw [hs1]; exact fun s A C hs ht => hs.turn hyz ht
    obtain ⟨i0, hi9, hzz⟩ := Option.map_eq_some_iff.1 Try.info51
    simp only [Prod.mk.injEq] at hzz
    obtain ⟨hz0, hz1', hz2⟩ := hzz
    refine (wpIn_wide (n := 5)).1 ?_
    refine wp_over (xs := numd 0 (stds h)) rfl (fun h => (by cases h)) (gf := 47) (lb := #[.pointer (some ⟨y + 1, 0, none⟩)]) rfl trivial (enters_of Try.func47 (by kernel_rfl) rfl)
      (links1_seq _ (y + 1) v h HK.out.2.2.2.2.1 HK.out.2.2.2.2.2 (by have := HK.out.2.2.1; have := HK.out.1; omega) (by have := HK.out.2.2.2.1; have := HK.out.1; omega) (by have := HK.out.2.1; omega) (by have := HK.out.2.1; omega) (y + 1 + 1) (by omega)) (by rw [hs1]; exact Nat.le_refl _) (fun _ => Or.inl rfl) (fun _ => Or.inl rfl) (fun _ => rfl) _ (fun _ _ => False) HI (fun _ _ _ h _ => h) (fun pre Wc hi => ⟨hi.bh, HH.out.keep (by rw [HZ.out]; exact hi.bl)⟩) hI0
      (fun x a' Wc => ∃ Bx, Wc.heap[Bx]? = some (.cells (sixC x.2) 73) ∧ a' = { tmps := #[.agg #[.slice v.no h.node.length v.nc, .slice v.uo h.upF.length v.uc, .slice v.ul h.up.length v.ulc, .slice v.wo h.dnF.length v.wc, .slice v.dl h.dn.length v.dlc], .pointer (some ⟨z, 0, none⟩), .pointer (some ⟨z + 1, 0, none⟩), .nilIface, .nilIface, .pointer (some ⟨y, 0, none⟩), undef, .pointer (some ⟨Bx, 0, none⟩), undef, undef, .agg #[.slice v.no h.node.length v.nc, .slice v.uo h.upF.length v.uc, .slice v.ul h.up.length v.ulc, .slice v.wo h.dnF.length v.wc, .slice v.dl h.dn.length v.dlc], .nilIface, .nilIface, .bool false, undef, undef, .agg #[.slice v.no h.node.length v.nc, .slice v.uo h.upF.length v.uc, .slice v.ul h.up.length v.ulc, .slice v.wo h.dnF.length v.wc, .slice v.dl h.dn.length v.dlc], .func (.func 47) #[] #[.pointer (some ⟨y + 1, 0, none⟩)], .int .i64 (x.1 : Int), svl x.2, undef, undef, undef, undef, undef, undef, undef, undef, undef, undef, undef, undef, undef, undef, undef, undef, undef, undef, undef, undef, undef, undef, undef, undef, undef, undef, undef, undef, undef, undef, undef, undef, undef, undef], defers := [] })
      (fun x a' _ A C hs ht => by obtain ⟨Bx, h1, h2⟩ := hs; exact ⟨Bx, ht.same _ _ h1 not_TnI_stand, h2⟩) ?assign ?body ?done (fun _ _ _ _ _ h _ => h.elim)
    case assign =>
      rintro l2 pre x Wc K hi hp hK
      have HHI : Hid (GRI w v h z y pre Wc) := hi
      clear hi
      obtain ⟨k, ⟨⟨hd, wt, lf, rt⟩, rk, up⟩⟩ := x
      dsimp only [encS, svl]
      gi_wp2
      exact hK _ _ ((KeepsT.refl _ _ _).alloc _) (HHI.out.turn hyz ((Turn.refl _ _ _).alloc HHI.out.sz _)) ⟨Wc.heap.size, heap_newW _ _, rfl⟩
    case body =>
      rintro l2 pre x a' Wc hl2 hi ⟨Bx, bX, rfl⟩ hp
      obtain ⟨aa, s, rfl, rfl, hpp⟩ := numd_prefix hp
      have hmem : s ∈ stds h := by
        obtain ⟨t, ht⟩ := hpp
        rw [← ht]
        simp
      have hsok := HSO.out s hmem
      obtain ⟨ft, fh, _, fw⟩ := form_mem HCL.out hmem
      have hal : aa.length < 1048576 := by have := hpp.length_le; have := HSL.out; simp at *; omega
      have HHI : Hid (GRI w v h z y (numd 0 aa) Wc) := hi
      obtain ⟨g3, g4, g5, g6, g7, g8⟩ := six_of bX
      have hBs := some_lt bX
      have hzs := some_lt hi.bx
      obtain ⟨nb, nof, en, hnb, hnc⟩ := (HH.out.keep (w' := Wc) (by rw [HZ.out]; exact hi.bl)).node.cells (by omega)
      have ct := hnc s.tail ft
      have ch := hnc s.head fh
      have s1 := HH.out.node.small s.tail
      have s2 := HH.out.node.small s.head
      have cz := (five_cells hi.bx).1
      rw [en] at cz
      have HK2 : Hid (∀ wx, Below Wc.heap.size Wc wx → wx.cell? ⟨z, 0, none⟩ = some (.slice (some ⟨nb, nof, none⟩) h.node.length v.nc) ∧ (wx.cell? ⟨Bx, 0, none⟩ = some (.int .u32 (s.lk.hd : Int)) ∧ wx.cell? ⟨Bx, 1, none⟩ = some (.int .u64 (s.lk.wt : Int)) ∧ wx.cell? ⟨Bx, 2, none⟩ = some (.int .u32 (s.lk.lf : Int)) ∧ wx.cell? ⟨Bx, 3, none⟩ = some (.int .u32 (s.lk.rt : Int)) ∧ wx.cell? ⟨Bx, 4, none⟩ = some (.int .u32 (s.rk : Int)) ∧ wx.cell? ⟨Bx, 5, none⟩ = some (.bool s.up)) ∧ wx.cell? ⟨nb, nof + s.tail, none⟩ = some (.int .u32 (nth h.node s.tail : Int)) ∧ wx.cell? ⟨nb, nof + s.head, none⟩ = some (.int .u32 (nth h.node s.head : Int))) := fun wx hx => ⟨(hx.cell (p := ⟨z, 0, none⟩) hzs).trans cz, ⟨(hx.cell (p := ⟨Bx, 0, none⟩) hBs).trans g3, (hx.cell (p := ⟨Bx, 1, none⟩) hBs).trans g4, (hx.cell (p := ⟨Bx, 2, none⟩) hBs).trans g5, (hx.cell (p := ⟨Bx, 3, none⟩) hBs).trans g6, (hx.cell (p := ⟨Bx, 4, none⟩) hBs).trans g7, (hx.cell (p := ⟨Bx, 5, none⟩) hBs).trans g8⟩, (hx.cell (p := ⟨nb, _, none⟩) hnb).trans ct, (hx.cell (p := ⟨nb, _, none⟩) hnb).trans ch⟩
      have HT1 : Hid (∀ wx, Below Wc.heap.size Wc wx → Calls Try.prog 28 #[.agg #[.int .u32 (s.lk.hd : Int), .int .u64 (s.lk.wt : Int), .int .u32 (s.lk.lf : Int), .int .u32 (s.lk.rt : Int), .int .u32 (s.rk : Int), .bool s.up]] wx fun e w' => e = .returned (.int .u32 (s.tail : Int)) ∧ Below Wc.heap.size Wc w') := fun wx hx => (tail_calls s wx).mono fun e w' ⟨q1, q2⟩ => ⟨q1, hx.trans (q2.mono hx.size)⟩
      have HT2 : Hid (∀ wx, Below Wc.heap.size Wc wx → Calls Try.prog 29 #[.agg #[.int .u32 (s.lk.hd : Int), .int .u64 (s.lk.wt : Int), .int .u32 (s.lk.lf : Int), .int .u32 (s.lk.rt : Int), .int .u32 (s.rk : Int), .bool s.up]] wx fun e w' => e = .returned (.int .u32 (s.head : Int)) ∧ Below Wc.heap.size Wc w') := fun wx hx => (head_calls s wx).mono fun e w' ⟨q1, q2⟩ => ⟨q1, hx.trans (q2.mono hx.size)⟩
      have HPL : Hid (∀ m wx, Below Wc.heap.size Wc wx → CallsIn (Fence.wide.inRound l2) m Try.prog 27 #[.agg #[.int .u32 (s.lk.hd : Int), .int .u64 (s.lk.wt : Int), .int .u32 (s.lk.lf : Int), .int .u32 (s.lk.rt : Int)]] wx fun e w' => e = .returned (.bool s.lk.plain) ∧ Below Wc.heap.size Wc w') := fun m wx hx => CallsIn.inRound l2 (callsIn_wide.2 ((plain_calls s.lk wx).mono fun e w' ⟨q1, q2⟩ => ⟨q1, hx.trans (q2.mono hx.size)⟩))
      have v1 : IntKind.i64.wrap (nth h.node s.tail : Int) = (nth h.node s.tail : Int) := by rw [IntKind.wrap_i64]; omega
      have v2 : IntKind.i64.wrap (nth h.node s.head : Int) = (nth h.node s.head : Int) := by rw [IntKind.wrap_i64]; omega
      have i1 : (s.tail : Int) < (h.node.length : Int) := by omega
      have i2 : (s.head : Int) < (h.node.length : Int) := by omega
      have HLN : Hid (aa.length < 1048576 ∧ (numd 0 aa).map Prod.snd = aa) := ⟨hal, numd_map 0 aa⟩
      clear hi bX hsok hpp hp hnc hmem
      dsimp only [svl]
      obtain ⟨pl, hpl⟩ : ∃ pl, s.lk.plain = pl := ⟨_, rfl⟩
      rw [hpl] at HPL
      have HPP : Hid (s.lk.plain = pl) := hpl
      clear hpl
      cases pl
      · gi_wp2_with (refine ⟨trivial, ?_⟩; (with_reducible refine (HPL.out _ _ (Below.refl _ _)).mono ?_); rintro e wp ⟨rfl, hbp⟩; have HBP : Hid (Below Wc.heap.size Wc wp) := hbp; clear hbp)
        exact ⟨keepsT_below HBP.out, gri_skip HPP.out (HHI.out.below hyz HBP.out)⟩
      · have hwt := fw HPP.out
        have v3 : IntKind.i64.wrap (s.lk.wt : Int) = (s.lk.wt : Int) := by rw [IntKind.wrap_i64]; omega
        gi_wp2_with (refine ⟨trivial, ?_⟩; (with_reducible refine (HPL.out _ _ (Below.refl _ _)).mono ?_); rintro e wp ⟨rfl, hbp⟩)
        · refine region_round (S := fun w' => w'.cell? ⟨z, 0, none⟩ = some (.slice (some ⟨nb, nof, none⟩) h.node.length v.nc) ∧ (w'.cell? ⟨Bx, 0, none⟩ = some (.int .u32 (s.lk.hd : Int)) ∧ w'.cell? ⟨Bx, 1, none⟩ = some (.int .u64 (s.lk.wt : Int)) ∧ w'.cell? ⟨Bx, 2, none⟩ = some (.int .u32 (s.lk.lf : Int)) ∧ w'.cell? ⟨Bx, 3, none⟩ = some (.int .u32 (s.lk.rt : Int)) ∧ w'.cell? ⟨Bx, 4, none⟩ = some (.int .u32 (s.rk : Int)) ∧ w'.cell? ⟨Bx, 5, none⟩ = some (.bool s.up)) ∧ w'.cell? ⟨nb, nof + s.tail, none⟩ = some (.int .u32 (nth h.node s.tail : Int)) ∧ w'.cell? ⟨nb, nof + s.head, none⟩ = some (.int .u32 (nth h.node s.head : Int))) (by kernel_rfl) (by kernel_rfl) (fun ⟨_, _, g⟩ => g) (HK2.out _ (hbp.drew)) (fun hHeld => ?_)
          refine wpAnyH_take (i := 0) (oi := { dst := some 23, op := Op.fieldAddr 25 (Operand.tmp 1) 0, type := 0, pos := "hier.go:32", after := #[], guard := none }) (v := ?vg0) rfl (by kernel_rfl) (by kernel_rfl) (by kernel_rfl) (fun _ _ _ h => h) (Or.inl ⟨by rfl, ?hg0⟩) (by assumption) ?rg0
          case hg0 => ((intro wz hSw; (try dsimp only at hSw); go_simp); try (with_reducible rfl))
          simp only [Act.put, List.setIfInBounds_toArray, List.set_cons_zero, List.set_cons_succ]
          refine wpAnyH_take (i := 1) (oi := { dst := some 24, op := Op.load 22 (Operand.tmp 23), type := 22, pos := "hier.go:32", after := #[{ on := 0, ground := Ground.data }], guard := none }) (v := ?vg1) rfl (by kernel_rfl) (by kernel_rfl) (by kernel_rfl) (fun _ _ _ h => h) (Or.inl ⟨by rfl, ?hg1⟩) (by assumption) ?rg1
          case hg1 => ((intro wz hSw; (try dsimp only at hSw); go_simp); try (with_reducible rfl))
          simp only [Act.put, List.setIfInBounds_toArray, List.set_cons_zero, List.set_cons_succ]
          refine wpAnyH_take (i := 2) (oi := { dst := some 25, op := Op.load 73 (Operand.tmp 7), type := 73, pos := "hier.go:32", after := #[], guard := none }) (v := ?vg2) rfl (by kernel_rfl) (by kernel_rfl) (by kernel_rfl) (fun _ _ _ h => h) (Or.inl ⟨by rfl, ?hg2⟩) (by assumption) ?rg2
          case hg2 => ((intro wz hSw; (try dsimp only at hSw); go_simp); try (with_reducible rfl))
          simp only [Act.put, List.setIfInBounds_toArray, List.set_cons_zero, List.set_cons_succ]
          refine wpAnyH_take (i := 6) (oi := { dst := some 29, op := Op.fieldAddr 25 (Operand.tmp 1) 0, type := 0, pos := "hier.go:32", after := #[{ on := 12, ground := Ground.gcOnly Departure.lateStores }], guard := none }) (v := ?vg6) rfl (by kernel_rfl) (by kernel_rfl) (by kernel_rfl) (fun _ _ _ h => h) (Or.inl ⟨by rfl, ?hg6⟩) (by assumption) ?rg6
          case hg6 => ((intro wz hSw; (try dsimp only at hSw); go_simp); try (with_reducible rfl))
          simp only [Act.put, List.setIfInBounds_toArray, List.set_cons_zero, List.set_cons_succ]
          refine wpAnyH_take (i := 7) (oi := { dst := some 30, op := Op.load 22 (Operand.tmp 29), type := 22, pos := "hier.go:32", after := #[{ on := 6, ground := Ground.data }, { on := 12, ground := Ground.gcOnly Departure.lateStores }], guard := none }) (v := ?vg7) rfl (by kernel_rfl) (by kernel_rfl) (by kernel_rfl) (fun _ _ _ h => h) (Or.inl ⟨by rfl, ?hg7⟩) (by assumption) ?rg7
          case hg7 => ((intro wz hSw; (try dsimp only at hSw); go_simp); try (with_reducible rfl))
          simp only [Act.put, List.setIfInBounds_toArray, List.set_cons_zero, List.set_cons_succ]
          refine wpAnyH_take (i := 8) (oi := { dst := some 31, op := Op.load 73 (Operand.tmp 7), type := 73, pos := "hier.go:32", after := #[], guard := none }) (v := ?vg8) rfl (by kernel_rfl) (by kernel_rfl) (by kernel_rfl) (fun _ _ _ h => h) (Or.inl ⟨by rfl, ?hg8⟩) (by assumption) ?rg8
          case hg8 => ((intro wz hSw; (try dsimp only at hSw); go_simp); try (with_reducible rfl))
          simp only [Act.put, List.setIfInBounds_toArray, List.set_cons_zero, List.set_cons_succ]
          refine wpAnyH_ready (rs := [3]) (by kernel_rfl) (by simp) ?_
          refine AllReadyH.cons (o := { dst := some 26, op := Op.call { callee := Callee.value (Operand.func 28), args := #[Operand.tmp 25], argTypes := #[73] }, type := 43, pos := "hier.go:32", after := #[{ on := 2, ground := Ground.data }], guard := none }) rfl (fun K hK => ?_) AllReadyH.nil
          go_simp
          go_at_call 28
          refine (HT1.out _ hbp.drew).mono ?_
          rintro e wt ⟨rfl, hbt⟩
          go_wp2_with fail
          refine hK.out _ _ (HK2.out _ hbt) (fun hHeld1 => ?_)
          clear hK K hHeld
          refine wpAnyH_take (i := 4) (oi := { dst := some 27, op := Op.indexAddr 22 (Operand.tmp 24) (Operand.tmp 26), type := 0, pos := "hier.go:32", after := #[{ on := 1, ground := Ground.data }, { on := 3, ground := Ground.data }], guard := none }) (v := ?vg4) rfl (by kernel_rfl) (by kernel_rfl) (by kernel_rfl) (fun _ _ _ h => h) (Or.inl ⟨by rfl, ?hg4⟩) (by assumption) ?rg4
          case hg4 => ((intro wz hSw; (try dsimp only at hSw); go_simp); try (with_reducible rfl))
          simp only [Act.put, List.setIfInBounds_toArray, List.set_cons_zero, List.set_cons_succ]
          refine wpAnyH_take (i := 5) (oi := { dst := some 28, op := Op.load 43 (Operand.tmp 27), type := 43, pos := "hier.go:32", after := #[{ on := 4, ground := Ground.data }], guard := none }) (v := ?vg5) rfl (by kernel_rfl) (by kernel_rfl) (by kernel_rfl) (fun _ _ _ h => h) (Or.inl ⟨by rfl, ?hg5⟩) (by assumption) ?rg5
          case hg5 => ((intro wz hSw; (try dsimp only at hSw); go_simp); try (with_reducible rfl))
          simp only [Act.put, List.setIfInBounds_toArray, List.set_cons_zero, List.set_cons_succ]
          refine wpAnyH_ready (rs := [9]) (by kernel_rfl) (by simp) ?_
          refine AllReadyH.cons (o := { dst := some 32, op := Op.call { callee := Callee.value (Operand.func 29), args := #[Operand.tmp 31], argTypes := #[73] }, type := 43, pos := "hier.go:32", after := #[{ on := 8, ground := Ground.data }, { on := 3, ground := Ground.chain }], guard := none }) rfl (fun K hK => ?_) AllReadyH.nil
          go_simp
          go_at_call 29
          refine (HT2.out _ hbt).mono ?_
          rintro e wh ⟨rfl, hbh⟩
          go_wp2_with fail
          refine hK.out _ _ (HK2.out _ hbh) (fun hHeld2 => ?_)
          clear hK K hHeld1
          refine wpAnyH_take (i := 10) (oi := { dst := some 33, op := Op.indexAddr 22 (Operand.tmp 30) (Operand.tmp 32), type := 0, pos := "hier.go:32", after := #[{ on := 7, ground := Ground.data }, { on := 9, ground := Ground.data }, { on := 12, ground := Ground.gcOnly Departure.lateStores }], guard := none }) (v := ?vg10) rfl (by kernel_rfl) (by kernel_rfl) (by kernel_rfl) (fun _ _ _ h => h) (Or.inl ⟨by rfl, ?hg10⟩) (by assumption) ?rg10
          case hg10 => ((intro wz hSw; (try dsimp only at hSw); go_simp); try (with_reducible rfl))
          simp only [Act.put, List.setIfInBounds_toArray, List.set_cons_zero, List.set_cons_succ]
          refine wpAnyH_take (i := 11) (oi := { dst := some 34, op := Op.load 43 (Operand.tmp 33), type := 43, pos := "hier.go:32", after := #[{ on := 10, ground := Ground.data }, { on := 12, ground := Ground.gcOnly Departure.lateStores }], guard := none }) (v := ?vg11) rfl (by kernel_rfl) (by kernel_rfl) (by kernel_rfl) (fun _ _ _ h => h) (Or.inl ⟨by rfl, ?hg11⟩) (by assumption) ?rg11
          case hg11 => ((intro wz hSw; (try dsimp only at hSw); go_simp); try (with_reducible rfl))
          simp only [Act.put, List.setIfInBounds_toArray, List.set_cons_zero, List.set_cons_succ]
          refine wpAnyH_take (i := 12) (oi := { dst := some 8, op := Op.assign (Operand.tmp 28), type := 43, pos := "hier.go:32", after := #[{ on := 5, ground := Ground.data }, { on := 9, ground := Ground.chain }, { on := 0, ground := Ground.phase }, { on := 1, ground := Ground.phase }, { on := 2, ground := Ground.phase }, { on := 3, ground := Ground.phase }, { on := 4, ground := Ground.phase }, { on := 5, ground := Ground.phase }, { on := 6, ground := Ground.textOnly Departure.lateStores }, { on := 7, ground := Ground.textOnly Departure.lateStores }, { on := 8, ground := Ground.textOnly Departure.lateStores }, { on := 9, ground := Ground.textOnly Departure.lateStoresUnsure }, { on := 10, ground := Ground.textOnly Departure.lateStores }, { on := 11, ground := Ground.textOnly Departure.lateStores }], guard := none }) (v := ?vg12) rfl (by kernel_rfl) (by kernel_rfl) (by kernel_rfl) (fun _ _ _ h => h) (Or.inl ⟨by rfl, ?hg12⟩) (by assumption) ?rg12
          case hg12 => ((intro wz hSw; (try dsimp only at hSw); go_simp); try (with_reducible rfl))
          simp only [Act.put, List.setIfInBounds_toArray, List.set_cons_zero, List.set_cons_succ]
          refine wpAnyH_take (i := 13) (oi := { dst := some 9, op := Op.assign (Operand.tmp 34), type := 43, pos := "hier.go:32", after := #[{ on := 11, ground := Ground.data }, { on := 12, ground := Ground.chain }, { on := 0, ground := Ground.phase }, { on := 1, ground := Ground.phase }, { on := 2, ground := Ground.phase }, { on := 3, ground := Ground.phase }, { on := 4, ground := Ground.phase }, { on := 5, ground := Ground.phase }, { on := 6, ground := Ground.phase }, { on := 7, ground := Ground.phase }, { on := 8, ground := Ground.phase }, { on := 9, ground := Ground.phase }, { on := 10, ground := Ground.phase }, { on := 11, ground := Ground.phase }, { on := 12, ground := Ground.phase }], guard := none }) (v := ?vg13) rfl (by kernel_rfl) (by kernel_rfl) (by kernel_rfl) (fun _ _ _ h => h) (Or.inl ⟨by rfl, ?hg13⟩) (by assumption) ?rg13
          case hg13 => ((intro wz hSw; (try dsimp only at hSw); go_simp); try (with_reducible rfl))
          simp only [Act.put, List.setIfInBounds_toArray, List.set_cons_zero, List.set_cons_succ]
          refine wpAnyH_done (by kernel_rfl) ?_ _
          have HBH : Hid (Below Wc.heap.size Wc wh) := hbh
          have HGI : Hid (GRI w v h z y (numd 0 aa) wh) := HHI.out.below hyz hbh
          obtain ⟨r0, ⟨r1, r2, r3, r4, r5, r6⟩, r7, r8⟩ := HK2.out wh hbh
          obtain ⟨u, hu, hr⟩ := HGI.out.row
          have hsz := HGI.out.sz
          have q1 := hu.cell
          have hgl : (gArcs h ((numd 0 aa).map Prod.snd)).length < 1048576 := by rw [HLN.out.2]; have := gArcs_len h aa; have := HLN.out.1; omega
          have HHU : Hid (Boxed wh y 33 u ∧ wh.ownsRow y 49 3 u (gArcs h ((numd 0 aa).map Prod.snd)).length (flatA (gArcs h ((numd 0 aa).map Prod.snd)))) := ⟨hu, hr⟩
          clear hHeld2 hbh hbt hbp hu g3 g4 g5 g6 g7 g8 ct ch cz
          gi_wp2_with (gi_at_builtin; refine wpListIn_append_own _ rfl _ _ 33 rfl y 49 i0 (.agg #[.int .i64 0, .int .i64 0, .int .i64 0]) 3 24 Try.underlying33 hi9 hz0 hz1' hz2 rfl (by decide) _ _ _ rfl (hr.alloc _) ⟨wh.heap.size, 0, none⟩ 1 1 (encA (arcOf h s)) rfl rfl (arc_new wh (arcOf h s)) (arc_one _) (by unfold maxLen; omega) (by omega) (by simp; omega) ?_; intro v' w9 hown' hgrow _; obtain ⟨g', cap', rfl⟩ := ownsRow_succ hown'; obtain ⟨p1, p2, p3⟩ := gri_step (x := (aa.length, s)) hyz HPP.out HGI.out HHU.out.1 HHU.out.2 hown' hgrow; have HQ : Hid (GRI w v h z y (numd 0 aa ++ [(aa.length, s)]) (w9.setCell ⟨y, 0, none⟩ (.slice (some ⟨g', 0, none⟩) ((gArcs h ((numd 0 aa).map Prod.snd)).length + 1) cap')) ∧ KeepsT TnI (y + 1 + 1) wh (w9.setCell ⟨y, 0, none⟩ (.slice (some ⟨g', 0, none⟩) ((gArcs h ((numd 0 aa).map Prod.snd)).length + 1) cap'))) := ⟨p2, p3⟩; have y1 := p1.cell; have y2 := p1.frozen; clear p1 p2 p3 hown' hgrow)
          exact ⟨(keepsT_below HBH.out).trans (by rw [hs1]; exact HQ.out.2), HQ.out.1⟩
    case done =>
      rintro D Wd hD hi hK
      rw [hs1] at hD
      obtain ⟨u, hu, hr⟩ := hi.row
      rw [numd_map] at hr
      obtain ⟨lo, c, hu0, hlo, hsort⟩ := sort_ownF hr (Nat.le_trans (gArcs_len h _) HSL.out)
      subst hu0
      have HS : Hid _ := hsort
      have HLO : Hid (∀ a, lo = some a → y ≤ a.block ∧ ∃ cur, Wd.heap[a.block]? = some (.cells cur 49)) := hlo
      have HGI : Hid (GRI w v h z y (numd 0 (stds h)) Wd) := hi
      have HKD : Hid (Wd.heap[D]? = some (.deferred (some []))) := hK
      have q1 := hu.cell
      obtain ⟨c0, c1, c2, c3, c4⟩ := five_cells hi.bx
      have HBY : Hid (Boxed Wd y 33 (.slice lo (gArcs h (stds h)).length c)) := hu
      obtain ⟨kk, hkk⟩ : ∃ kk, (gArcs h (stds h)).length = kk := ⟨_, rfl⟩
      rw [hkk] at q1 HS HBY
      have HKK : Hid ((sortE (gArcs h (stds h))).length = kk) := by show _ = _; rw [sortE_len]; exact hkk
      have HSORT : Hid (Calls Try.prog 30 #[.slice lo kk c, .func (.func 31) #[] #[]] Wd fun e w' => e = .returned (.tuple #[]) ∧ Hid (HasArcs w' (.slice lo kk c) (sortE (gArcs h (stds h))) ∧ Wr w' lo (kk * 3)) ∧ (w'.heap[z]? = some (.cells (cellsH v h) 25) ∧ w'.heap[z + 1]? = some (.cells #[.int .i64 0, .slice none 0 0] 35) ∧ Boxed w' y 33 (.slice lo kk c) ∧ w'.heap[D]? = some (.deferred (some []))) ∧ Below z w w' ∧ Wd.heap.size ≤ w'.heap.size) := by
        refine Calls.mono HS.out ?_
        rintro e w' ⟨g1, g2, g3, g4, g5, g6, g7⟩
        have far : ∀ (k : Nat) (o : Obj), Wd.heap[k]? = some o → (∀ c, o ≠ .cells c 49) → w'.heap[k]? = some o := fun k o hk hn => (g7 k (some_lt hk) (fun a ha e => by obtain ⟨_, cur, hc⟩ := HLO.out a ha; rw [e, hk] at hc; cases hc; exact hn _ rfl)).trans hk
        refine ⟨g1, g2, ⟨far _ _ hi.bx (fun c e => by cases e), far _ _ hi.gx (fun c e => by cases e), far _ _ HBY.out (fun c e => by cases e), far _ _ hK (fun c e => by cases e)⟩, ⟨g4.trans hi.bl.os, g5.trans hi.bl.tape, g6.trans hi.bl.output, Nat.le_trans hi.bl.size g3, fun k hk => ?_⟩, g3⟩
        have := hi.sz
        exact (g7 k (by omega) (fun a ha e => by have := (HLO.out a ha).1; omega)).trans (hi.bl.block _ hk)
      have HKZ : Hid (∀ a, lo = some a → a.block ≠ z + 1 ∧ a.block ≠ D ∧ a.block < Wd.heap.size) := fun a ha => by
        obtain ⟨g1, cur, g2⟩ := HLO.out a ha
        exact ⟨by omega, fun e => (by rw [e, hK] at g2; cases g2), some_lt g2⟩
      clear hi hK hsort hu hr hlo hkk HI HS
      go_wp2_with (go_at_call 30; refine HSORT.out.mono ?_; rintro e w9 ⟨rfl, HA9, ⟨g1, g2, g3, g4⟩, g5, g6⟩; have H9 : Hid ((w9.heap[z]? = some (.cells (cellsH v h) 25) ∧ w9.heap[z + 1]? = some (.cells #[.int .i64 0, .slice none 0 0] 35) ∧ Boxed w9 y 33 (.slice lo kk c) ∧ w9.heap[D]? = some (.deferred (some []))) ∧ Below z w w9 ∧ Wd.heap.size ≤ w9.heap.size) := ⟨⟨g1, g2, g3, g4⟩, g5, g6⟩; have d0 := (five_cells g1).1; have d1 : w9.cell? ⟨z + 1, 0, none⟩ = some (.int .i64 0) := (by simp [World.cell?, g2]); have d2 : w9.cell? ⟨z + 1, 1, none⟩ = some (.slice none 0 0) := (by simp [World.cell?, g2]); have d3 := g3.cell; have d4 : w9.frozen? ⟨z + 1, 0, none⟩ = false := (by simp [World.frozen?, g2]); have d5 : w9.frozen? ⟨z + 1, 1, none⟩ = false := (by simp [World.frozen?, g2]); clear g1 g2 g3 g4 g5 g6)
      have f1 : ((w9.setCell ⟨z + 1, 0, none⟩ (.int .i64 (h.node.length : Int))).setCell ⟨z + 1, 1, none⟩ (.slice lo kk c)).heap[D]? = some (.deferred (some [])) := ((Below.heap_setCell _ _ _ _ (by show D ≠ z + 1; omega)).trans (Below.heap_setCell _ _ _ _ (by show D ≠ z + 1; omega))).trans H9.out.1.2.2.2
      have f2 : (((w9.setCell ⟨z + 1, 0, none⟩ (.int .i64 (h.node.length : Int))).setCell ⟨z + 1, 1, none⟩ (.slice lo kk c)).putObj D (.deferred none)).heap[z + 1]? = some (.cells #[.int .i64 (h.node.length : Int), .slice lo kk c] 35) := (World.putObj_heap_other (by omega)).trans (set_two H9.out.1.2.1 _ _)
      refine ⟨fun ch e => (by cases e), by simp, .inl ⟨_, _, rfl, run_takeDeferred f1, ?_⟩⟩
      refine ⟨_, graph_res f2 rfl, (h.node.length : Int), lo, kk, c, _, sortE (gArcs h (stds h)), rfl, ?_, ?_, ?_, Or.inl ⟨HC.out, rfl, rfl, rfl⟩⟩
      · rw [HZ.out]
        exact ((H9.out.2.1.setCell (p := ⟨z + 1, 0, none⟩) (by show z ≤ z + 1; omega) _).setCell (p := ⟨z + 1, 1, none⟩) (by show z ≤ z + 1; omega) _).trans ((Turn.refl TnC z _).putObj (by omega) f1 rfl _).below
      · refine arcs_far HA9.out.1 (by simp [World.setCell]) (fun a ha => ?_)
        obtain ⟨g1, g2, _⟩ := HKZ.out a ha
        exact (World.putObj_heap_other g2).trans ((Below.heap_setCell _ _ _ _ g1).trans (Below.heap_setCell _ _ _ _ g1))
      · have far : ∀ a, lo = some a → (((w9.setCell ⟨z + 1, 0, none⟩ (.int .i64 (h.node.length : Int))).setCell ⟨z + 1, 1, none⟩ (.slice lo kk c)).putObj D (.deferred none)).heap[a.block]? = w9.heap[a.block]? := fun a ha => by
          obtain ⟨g1, g2, _⟩ := HKZ.out a ha
          exact (World.putObj_heap_other g2).trans ((Below.heap_setCell _ _ _ _ g1).trans (Below.heap_setCell _ _ _ _ g1))
        refine ⟨fun b o ha j hj => ?_, fun a ha => ⟨?_, ?_⟩⟩
        · rw [HKK.out] at hj
          obtain ⟨⟨q, q1⟩, q2⟩ := HA9.out.2 b o ha j hj
          exact ⟨⟨q, (World.cell?_of_block (a := ⟨b, o + j, none⟩) (far ⟨b, o, none⟩ ha)).trans q1⟩, (World.frozen?_of_block (a := ⟨b, o + j, none⟩) (far ⟨b, o, none⟩ ha)).trans q2⟩
        · have := (HLO.out a ha).1
          have := HZ.out
          omega
        · have h1 := (HKZ.out a ha).2.2
          have h2 := H9.out.2.2
          have h3 : (((w9.setCell ⟨z + 1, 0, none⟩ (.int .i64 (h.node.length : Int))).setCell ⟨z + 1, 1, none⟩ (.slice lo kk c)).putObj D (.deferred none)).heap.size = w9.heap.size := by simp [World.setCell, World.putObj]
          omega
  · have HC : Hid (chk h ≠ (0, [])) := hck
    have HCK2 : Hid (Calls Try.prog 19 #[.agg #[.slice v.no h.node.length v.nc, .slice v.uo h.upF.length v.uc, .slice v.ul h.up.length v.ulc, .slice v.wo h.dnF.length v.wc, .slice v.dl h.dn.length v.dlc]] W0 fun e w' => ∃ t x, e = .returned (.iface t x) ∧ IsTold w' (chk h) (.iface t x) ∧ Below W0.heap.size W0 w') := HCK.out.mono fun e w' ⟨u, h1, h2, h3⟩ => by
      obtain ⟨t, x, e0, _⟩ := isTold_some h2 HC.out
      subst e0
      exact ⟨t, x, h1, h2, h3⟩
    clear HCK hck
    go_wp2_with (go_at_call 19; refine HCK2.out.mono ?_; rintro e w1 ⟨ut, ux, rfl, htu, hbu⟩; have HE1 : Hid (w1.heap[z + 1]? = some (.cells #[.int .i64 0, .slice none 0 0] 35) ∧ Below z w w1 ∧ IsTold w1 (chk h) (.iface ut ux)) := ⟨(hbu.block _ (by omega)).trans HE0.out.2.1, HE0.out.2.2.trans (hbu.mono (by omega)), htu⟩; have d1 : w1.cell? ⟨z + 1, 0, none⟩ = some (.int .i64 0) := (by simp [World.cell?, HE1.out.1]); have d2 : w1.cell? ⟨z + 1, 1, none⟩ = some (.slice none 0 0) := (by simp [World.cell?, HE1.out.1]); have d4 : w1.frozen? ⟨z + 1, 0, none⟩ = false := (by simp [World.frozen?, HE1.out.1]); have d5 : w1.frozen? ⟨z + 1, 1, none⟩ = false := (by simp [World.frozen?, HE1.out.1]); clear htu hbu)
    refine ⟨fun ch e => (by cases e), ?_⟩
    refine ⟨_, graph_res (set_two HE1.out.1 (.int .i64 0) (.slice none 0 0)) rfl, 0, none, 0, 0, _, [], rfl, ?_, ⟨none, 0, rfl, fun j a hj => by simp at hj⟩, ⟨(fun b o e => by cases e), (fun a e => by cases e)⟩, Or.inr ⟨HC.out, rfl, rfl, ?_⟩⟩
    · rw [HZ.out]
      exact (HE1.out.2.1.setCell (p := ⟨z + 1, 0, none⟩) (by show z ≤ z + 1; omega) _).setCell (p := ⟨z + 1, 1, none⟩) (by show z ≤ z + 1; omega) _
    · refine HE1.out.2.2.keep (fun b c hb => ?_)
      have e1 : b ≠ z + 1 := fun e => by rw [e, HE1.out.1] at hb; cases hb
      exact ((Below.heap_setCell _ _ _ _ e1).trans (Below.heap_setCell _ _ _ _ e1)).trans hb
set_option maxRecDepth 100000 in
set_option maxHeartbeats 4000000 in
theorem ranks_callsF (v : HV) (h : Hr) (w : World) (hH : HasH w v h) (hb1 : h.up.length ≤ 1152921504606846976) (hb2 : h.dn.length ≤ 1152921504606846976) (hb3 : h.node.length ≤ 1152921504606846976) :
    Calls Try.prog 9 #[hvl v h] w fun e w' => ∃ lo k c u L, e = .returned (.tuple #[.slice lo k c, u]) ∧ Below w.heap.size w w' ∧ HasInts w' (.slice lo k c) L ∧ (Wr w' lo L.length ∧ ∀ a, lo = some a → w.heap.size ≤ a.block ∧ a.block < w'.heap.size) ∧
      ((chk h = (0, []) ∧ L = intsL (rkM h.node) ∧ u = .nilIface) ∨ (chk h ≠ (0, []) ∧ L = [] ∧ IsTold w' (chk h) u)) := by
  obtain ⟨z, hz⟩ : ∃ z, w.heap.size = z := ⟨_, rfl⟩
  have HZ : Hid (w.heap.size = z) := hz
  have HH : Hid (HasH w v h) := hH
  obtain ⟨W0, hW0⟩ : ∃ W0, w.alloc (.cells (cellsH v h) 25) = W0 := ⟨_, rfl⟩
  have hE0 : W0.heap[z]? = some (.cells (cellsH v h) 25) ∧ Below z w W0 := by
    rw [← hW0, ← hz]
    exact ⟨heap_newW _ _, (Below.refl _ _).alloc (Nat.le_refl _) _⟩
  have hs0 : W0.heap.size = z + 1 := by rw [← hW0]; simp [hz]
  have HW0 : Hid (w.alloc (.cells (cellsH v h) 25) = W0) := hW0
  have HE0 : Hid (W0.heap[z]? = some (.cells (cellsH v h) 25) ∧ Below z w W0) := hE0
  have HCK : Hid (Calls Try.prog 19 #[hvl v h] W0 fun e w' => ∃ u, e = .returned u ∧ IsTold w' (chk h) u ∧ Below W0.heap.size W0 w') := check_calls v h W0 (hH.keep (by rw [hz]; exact hE0.2)) hb1 hb2 hb3
  obtain ⟨c0, c1, c2, c3, c4⟩ := five_cells hE0.1
  clear hW0 hE0 hH
  unfold hvl at HCK ⊢
  unfold cellsH at HW0
  go_enter Try.func9, Try.ntmps9
  go_upto_region 1 with fail
  rw [HW0.out]
  by_cases hck : chk h = (0, [])
  · obtain ⟨k1, k2, k3, k4, k5, k6, k7, k8⟩ := chk_ok hck
    have hmk := run_make_row' (P := Try.prog) 38 3 (.int .i64 0) 8 Try.underlying38 infoIn rfl .i64 .i64 h.node.length (by omega) (by omega)
    have HCN : Hid (cn h.node = (0, [])) := k7
    have HC : Hid (chk h = (0, [])) := hck
    rw [hck] at HCK
    clear hck k2 k3 k4 k5 k6 k7 k8
    go_wp2_with (go_at_call 19; refine HCK.out.mono ?_; rintro e w1 ⟨u, rfl, htu, hbu⟩; have hu0 := isTold_nil htu; subst hu0; have HE1 : Hid (w1.heap[z]? = some (.cells (cellsH v h) 25) ∧ Below z w w1 ∧ z < w1.heap.size) := ⟨(hbu.block _ (by omega)).trans HE0.out.1, HE0.out.2.trans (hbu.mono (by omega)), by have := hbu.size; omega⟩; obtain ⟨k0, k1, k2, k3, k4⟩ := five_cells HE1.out.1; have hz1 : z < w1.heap.size := HE1.out.2.2; clear htu hbu)
    obtain ⟨y, hy⟩ : ∃ y, w1.heap.size = y := ⟨_, rfl⟩
    obtain ⟨W2, hW2⟩ : ∃ W2, w1.alloc (.cells (madeCells #[.int .i64 0] h.node.length) 3) = W2 := ⟨_, rfl⟩
    have H0 : Hid (RowI W2 y h.node.length (rkAt h.node 0) ∧ Below z w W2) := by rw [← hW2, ← hy]; exact ⟨rowI_new w1 _ _, HE1.out.2.1.alloc (Nat.le_of_lt hz1) _⟩
    have hzy : z ≤ y := by omega
    have HL : Hid (h.node.length ≤ 65536) := by assumption
    rw [hW2, hy]
    clear hW2 hy k0 k1 k2 k3 k4 hmk c0 c1 c2 c3 c4 hz1
    generalize hn : h.node.length = n at *
    go_loopw [20] (fun iv wr => ∃ k : Nat, k ≤ n ∧ iv = .int .i64 k ∧ Hid (RowI wr y n (rkAt h.node k)) ∧ Hid (Below z w wr)) (fun iv _ => n - (intOf iv).toNat)
    case atStart => exact ⟨0, by omega, rfl, H0.out.1, H0.out.2⟩
    case round =>
      obtain ⟨k, hk, rfl, HR, HB⟩ := hrel
      rcases Nat.lt_or_eq_of_le hk with h1 | h1
      · have hN := HH.out.node.keep (by rw [HZ.out]; exact HB.out)
        have HX : Hid (nth h.node k < n) := by have := (cn_ok HCN.out (k := k) (by omega)).1; show _ < _; omega
        rw [hn] at hN
        obtain ⟨b, off, e1, hbl, hc⟩ := hN.cells (by omega)
        rw [e1]
        have ck := hc k h1
        have cs := HR.out.cell (nth h.node k) HX.out
        have fs := HR.out.free (nth h.node k)
        obtain ⟨x, hx⟩ : ∃ x, nth h.node k = x := ⟨_, rfl⟩
        have HN2 : Hid (RowI (wr.setCell ⟨y, x, none⟩ (.int .i64 (k : Int))) y n (rkAt h.node (k + 1)) ∧ Below z w (wr.setCell ⟨y, x, none⟩ (.int .i64 (k : Int)))) := ⟨HR.out.set (by rw [← hx]; exact HX.out) hx, HB.out.setCell hzy _⟩
        rw [hx] at ck cs fs HX
        have hxi : (x : Int) < (n : Int) := by have := HX.out; omega
        have hxi0 : (0 : Int) ≤ (x : Int) := by omega
        have hki : (k : Int) < (n : Int) := by omega
        have hw9 : IntKind.i64.wrap (x : Int) = (x : Int) := by rw [IntKind.wrap_i64]; omega
        clear hc hN hx
        go_wp2
        go_roundw
        case rel => exact ⟨k + 1, by omega, by simp, HN2.out.1, HN2.out.2⟩
        case measure => simp [intOf]; omega
      · subst h1
        go_wp2
        go_ret2
        refine ⟨_, _, _, _, _, rfl, ?_, ?_, ?_, Or.inl ⟨HC.out, rfl, rfl⟩⟩
        · rw [HZ.out]; exact HB.out
        · refine ⟨_, _, by rw [show (intsL (rkM h.node)).length = k by unfold intsL; rw [List.length_map, rkM_len, hn]], fun j a hj => ?_⟩
          have hjl : j < k := by have := (List.getElem?_eq_some_iff.1 hj).1; unfold intsL at this; rw [List.length_map, rkM_len, hn] at this; exact this
          refine ⟨y, 0, rfl, HR.out.lt, ?_⟩
          unfold intsL at hj
          rw [List.getElem?_map, rkM_get (by omega), Option.map_some] at hj
          injection hj with hj
          rw [Nat.zero_add, HR.out.cell j hjl, ← hj, hn]
        · refine ⟨fun b o e j hj => ?_, fun a e => ?_⟩
          · cases e
            have hjl : j < k := by unfold intsL at hj; rw [List.length_map, rkM_len, hn] at hj; exact hj
            exact ⟨⟨_, by rw [Nat.zero_add]; exact HR.out.cell j hjl⟩, by rw [Nat.zero_add]; exact HR.out.free j⟩
          · cases e
            rw [HZ.out]
            exact ⟨hzy, HR.out.lt⟩
  · have HC : Hid (chk h ≠ (0, [])) := hck
    go_wp2_with (go_at_call 19; refine HCK.out.mono ?_; rintro e w1 ⟨u, rfl, htu, hbu⟩; obtain ⟨tt, xx, hu1, hu2⟩ := isTold_some htu HC.out; subst hu1; have HT : Hid (IsTold w1 (chk h) (.iface tt xx) ∧ Below z w w1) := ⟨htu, HE0.out.2.trans (hbu.mono (by omega))⟩; clear htu hbu hu2)
    go_ret2
    exact ⟨_, _, _, _, [], rfl, by rw [HZ.out]; exact HT.out.2, ⟨none, 0, rfl, fun j a hj => by simp at hj⟩, ⟨fun b o e => (by cases e), fun a e => (by cases e)⟩, Or.inr ⟨HC.out, rfl, HT.out.1⟩⟩
end Go.Proofs.Ytkehpmbnbknpfaa.Hi
