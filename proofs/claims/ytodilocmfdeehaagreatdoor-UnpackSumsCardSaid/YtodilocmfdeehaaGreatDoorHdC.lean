/- viaductref10.EndOf: a link as an arc, by the list of ranks. -/
import Derived.Test.YtodilocmfdeehaaGreatDoorHdB
import Derived.Test.YtodilocmfdeehaaGreatDoorHrV
import Derived.Test.YtodilocmfdeehaaGreatDoorHtA
namespace Go.Proofs.YtodilocmfdeehaaGreatDoor.Hi
open Go.RowKit Go.Extern Go.Shelf

attribute [local go_sem] Oper.semAt_some

set_option maxRecDepth 100000 in
theorem field_hd (a b c d : Int) (wx : World) : (Instr.field 65 (.agg #[.int .u32 a, .int .u64 b, .int .u32 c, .int .u32 d]) 0).run Tryz.prog wx = .ok (.int .u32 a) wx := by
  first | kernel_rfl | rfl
/-- the ranks of all links, in memory. -/
def HasRk (w : World) (lv : Value) (h : Hr) : Prop := ∃ B, ∃ (mo : Option Addr) (mc : Nat), lv = .slice mo (stds h).length mc ∧ w.ownsRow B 3 1 lv (stds h).length (ivs ((stds h).map fun s => (s.rk : Int)))
theorem HasRk.keep {w w' : World} {lv : Value} {h : Hr} (g : HasRk w lv h) (hb : Below w.heap.size w w') : HasRk w' lv h := by
  obtain ⟨B, mo, mc, rfl, ho⟩ := g
  exact ⟨B, mo, mc, rfl, own_keep ho fun k _ _ hh => (hb.block k (some_lt hh)).trans hh⟩
theorem HasRk.at {w : World} {mo : Option Addr} {mc : Nat} {h : Hr} (g : HasRk w (.slice mo (stds h).length mc) h) {i : Nat} (hi : i < (stds h).length) : ∃ b, mo = some ⟨b, 0, none⟩ ∧ w.cell? ⟨b, i, none⟩ = some (.int .i64 ((sd (stds h) i).rk : Int)) ∧ ∃ cur, w.heap[b]? = some (.cells cur 3) := by
  obtain ⟨B, mo', mc', e, ho⟩ := g
  injection e with e1 _ e3
  subst e1 e3
  rcases ho.2 with ⟨e1, h0⟩ | ⟨b, cap, cur, e1, _, hh, _⟩
  · omega
  · injection e1 with e1 _ _
    subst e1
    refine ⟨b, rfl, ?_, cur, hh⟩
    rw [ho.cellAt i (by omega)]
    unfold ivs
    rw [List.getElem?_map, List.getElem?_map, sd_get hi]
    rfl
theorem endOf_res {W : World} {z : Nat} {x0 x1 x2 : Value} {tmps : Array Value} (h1 : W.heap[z]? = some (.cells #[x0, x1, x2] 59)) (t6 : tmps[6]?.getD undef = .pointer (some ⟨z, 0, none⟩)) :
    (results Tryz.f52 tmps).run Tryz.prog W = .ok (.agg #[x0, x1, x2]) W := by
  have c0 : W.cell? ⟨z, 0, none⟩ = some x0 := by simp [World.cell?, h1]
  have c1 : W.cell? ⟨z, 1, none⟩ = some x1 := by simp [World.cell?, h1]
  have c2 : W.cell? ⟨z, 2, none⟩ = some x2 := by simp [World.cell?, h1]
  simp [results, Tryz.results52, go_sem, t6, c0, c1, c2]
theorem set_three {W : World} {b : Nat} {p q r : Value} {T : TypeId} (h : W.heap[b]? = some (.cells #[p, q, r] T)) (x y u : Value) : (((W.setCell ⟨b, 0, none⟩ x).setCell ⟨b, 1, none⟩ y).setCell ⟨b, 2, none⟩ u).heap[b]? = some (.cells #[x, y, u] T) := by
  have hlt := some_lt h
  simp only [World.setCell, Array.getElem?_modify]
  simp [h]

set_option maxRecDepth 100000 in
set_option maxHeartbeats 4000000 in
theorem endOf_calls (v : HV) (h : Hr) (mo : Option Addr) (mc i : Nat) (w : World) (hH : HasH w v h) (hR : HasRk w (.slice mo (stds h).length mc) h) (hu : FOk h.upF h.up.length) (hd : FOk h.dnF h.dn.length) (hL : h.up.length + h.dn.length ≤ 1048576) (hi : i < (stds h).length) :
    Calls Tryz.prog 52 #[hvl v h, .slice mo (stds h).length mc, .int .i64 (i : Int)] w fun e w' => e = .returned (.agg #[.int .i64 ((sd (stds h) i).tail : Int), .int .i64 ((sd (stds h) i).head : Int), .int .i64 ((sd (stds h) i).rk : Int)]) ∧ Below w.heap.size w w' := by
  have hlen := stds_len hu hd
  obtain ⟨z, hz⟩ : ∃ z, w.heap.size = z := ⟨_, rfl⟩
  obtain ⟨W0, hW0⟩ : ∃ W0, (w.alloc (.cells (cellsH v h) 25)).alloc (.cells #[.int .i64 0, .int .i64 0, .int .i64 0] 59) = W0 := ⟨_, rfl⟩
  have hB0 : Below w.heap.size w W0 := by rw [← hW0]; exact ((Below.refl _ w).alloc (Nat.le_refl _) _).alloc (by simp) _
  have h0 : W0.heap[z]? = some (.cells (cellsH v h) 25) := by
    rw [← hW0, ← hz]; exact (Below.heap_alloc _ _ _ (by simp)).trans (heap_newW _ _)
  have h1 : W0.heap[z + 1]? = some (.cells #[.int .i64 0, .int .i64 0, .int .i64 0] 59) := by
    have g := heap_newW (w.alloc (.cells (cellsH v h) 25)) (.cells #[.int .i64 0, .int .i64 0, .int .i64 0] 59)
    rw [World.size_alloc, hW0, hz] at g
    exact g
  have HQ : Hid (∀ wx, Below W0.heap.size W0 wx → (wx.cell? ⟨z, 0, none⟩ = some (.slice v.no h.node.length v.nc) ∧ wx.cell? ⟨z, 1, none⟩ = some (.slice v.uo h.upF.length v.uc) ∧ wx.cell? ⟨z, 2, none⟩ = some (.slice v.ul h.up.length v.ulc) ∧ wx.cell? ⟨z, 3, none⟩ = some (.slice v.wo h.dnF.length v.wc) ∧ wx.cell? ⟨z, 4, none⟩ = some (.slice v.dl h.dn.length v.dlc)) ∧ wx.heap[z + 1]? = some (.cells #[.int .i64 0, .int .i64 0, .int .i64 0] 59) ∧ HasH wx v h ∧ Below w.heap.size w wx) := fun wx hx => by
    have g := hB0.trans (hx.mono hB0.size)
    exact ⟨five_cells ((hx.block _ (some_lt h0)).trans h0), (hx.block _ (some_lt h1)).trans h1, hH.keep g, g⟩
  have HRK : Hid (∀ wx, Below W0.heap.size W0 wx → ∃ b, mo = some ⟨b, 0, none⟩ ∧ wx.cell? ⟨b, i, none⟩ = some (.int .i64 ((sd (stds h) i).rk : Int)) ∧ ∃ cur, wx.heap[b]? = some (.cells cur 3)) := fun wx hx => (hR.keep (HQ.out wx hx).2.2.2).at hi
  have HLK : Hid (Calls Tryz.prog 27 #[hvl v h, .int .i64 (i : Int)] W0 fun e w' => e = .returned (lvl (linkAt h i)) ∧ Below W0.heap.size W0 w') := link_calls v h i W0 (HQ.out W0 (Below.refl _ _)).2.2.1 (by omega) (by omega)
  have hlk := stds_lk hu hd hi
  have HTL : Hid ((h.up.length ≤ i → (sd (stds h) i).tail = (linkAt h i).hd ∧ (sd (stds h) i).head = (sd (stds h) i).rk) ∧ (i < h.up.length → (sd (stds h) i).tail = (sd (stds h) i).rk ∧ (sd (stds h) i).head = (linkAt h i).hd)) := by
    have e := sd_up hu hd hi
    unfold Sd.tail Sd.head
    rw [hlk, e]
    constructor
    · intro g
      rw [decide_eq_false (by omega)]
      exact ⟨rfl, rfl⟩
    · intro g
      rw [decide_eq_true g]
      exact ⟨rfl, rfl⟩
  have hok : (linkAt h i).ok := by
    unfold linkAt
    rcases Nat.lt_or_ge i h.up.length with g | g
    · rw [List.getD_eq_getElem?_getD, List.getElem?_append_left g, List.getElem?_eq_getElem g]; exact hH.up.ok _ (List.getElem_mem g)
    · rw [List.getD_eq_getElem?_getD, List.getElem?_append_right g, List.getElem?_eq_getElem (by omega)]; exact hH.dn.ok _ (List.getElem_mem (by omega))
  have HW0 : Hid ((w.alloc (.cells (cellsH v h) 25)).alloc (.cells #[.int .i64 0, .int .i64 0, .int .i64 0] 59) = W0) := hW0
  have HEND : Hid (∀ wx, Below W0.heap.size W0 wx → ∀ x y u : Value, (((wx.setCell ⟨z + 1, 0, none⟩ x).setCell ⟨z + 1, 1, none⟩ y).setCell ⟨z + 1, 2, none⟩ u).heap[z + 1]? = some (.cells #[x, y, u] 59) ∧ Below w.heap.size w (((wx.setCell ⟨z + 1, 0, none⟩ x).setCell ⟨z + 1, 1, none⟩ y).setCell ⟨z + 1, 2, none⟩ u)) := fun wx hx x y u => ⟨set_three (HQ.out wx hx).2.1 x y u, (((HQ.out wx hx).2.2.2.setCell (p := ⟨z + 1, 0, none⟩) (by show w.heap.size ≤ z + 1; omega) _).setCell (p := ⟨z + 1, 1, none⟩) (by show w.heap.size ≤ z + 1; omega) _).setCell (p := ⟨z + 1, 2, none⟩) (by show w.heap.size ≤ z + 1; omega) _⟩
  obtain ⟨⟨c0, c1, c2, c3, c4⟩, _⟩ := HQ.out W0 (Below.refl _ _)
  obtain ⟨l, hl⟩ : ∃ l, linkAt h i = l := ⟨_, rfl⟩
  obtain ⟨rk, hrk⟩ : ∃ rk, (sd (stds h) i).rk = rk := ⟨_, rfl⟩
  obtain ⟨n, hn⟩ : ∃ n, (stds h).length = n := ⟨_, rfl⟩
  obtain ⟨tl, htl⟩ : ∃ tl, (sd (stds h) i).tail = tl := ⟨_, rfl⟩
  obtain ⟨hv, hhv⟩ : ∃ hv, (sd (stds h) i).head = hv := ⟨_, rfl⟩
  rw [hl] at HLK HTL hok
  rw [htl, hhv] at HTL ⊢
  rw [hrk] at HRK HTL ⊢
  have hx1 : IntKind.i64.wrap (l.hd : Int) = (l.hd : Int) := by rw [IntKind.wrap_i64]; have := hok.1; omega
  have hxf := field_hd (l.hd : Int) (l.wt : Int) (l.lf : Int) (l.rt : Int)
  obtain ⟨mb, emo, _⟩ := HRK.out W0 (Below.refl _ _)
  subst emo
  rw [hn] at hi hlen ⊢
  have j1 : (0 : Int) ≤ (i : Int) := by omega
  have j2 : (i : Int) < (n : Int) := by omega
  clear hW0 h0 h1 hB0 hH hR hlk hok hl hlen hn
  unfold cellsH at HW0
  unfold hvl at HLK ⊢
  unfold lvl at HLK
  go_enter Tryz.func52, Tryz.ntmps52
  go_upto_region 1 with fail
  rw [HW0.out]
  go_wp2_with fail
  refine HLK.out.mono ?_
  rintro e w1 ⟨rfl, hb1⟩
  have HB1 : Hid (Below W0.heap.size W0 w1) := hb1
  clear hb1 c0 c1 c2 c3 c4
  obtain ⟨⟨c0, c1, c2, c3, c4⟩, hz1, _⟩ := HQ.out w1 HB1.out
  obtain ⟨mb', e', ck, cur, hcur⟩ := HRK.out w1 HB1.out
  cases e'
  obtain ⟨⟨d0, d1, d2⟩, f0, f1, f2⟩ : (w1.cell? ⟨z + 1, 0, none⟩ = some (.int .i64 0) ∧ w1.cell? ⟨z + 1, 1, none⟩ = some (.int .i64 0) ∧ w1.cell? ⟨z + 1, 2, none⟩ = some (.int .i64 0)) ∧ w1.frozen? ⟨z + 1, 0, none⟩ = false ∧ w1.frozen? ⟨z + 1, 1, none⟩ = false ∧ w1.frozen? ⟨z + 1, 2, none⟩ = false := by simp [World.cell?, World.frozen?, hz1]
  have hne : mb ≠ z + 1 := fun e => by
    rw [e, hz1] at hcur
    simp at hcur
  have hne' : z + 1 ≠ mb := hne.symm
  clear hz1 hcur htl hhv hrk
  by_cases hup : i < h.up.length
  · have q1 : decide ((i : Int) < (h.up.length : Int)) = true := by simp; omega
    have q2 : decide (i < h.up.length) = true := by simpa using hup
    obtain ⟨rfl, rfl⟩ := HTL.out.2 hup
    go_wp2_with fail
    go_region_held3 (fun w' => w'.cell? ⟨mb, i, none⟩ = some (.int .i64 (tl : Int))) (go_keep) (fail)
    go_wp2
    obtain ⟨r1, r2⟩ := HEND.out w1 HB1.out (.int .i64 (tl : Int)) (.int .i64 (l.hd : Int)) (.int .i64 (tl : Int))
    exact bodyPost_ret (endOf_res (W := World.drew _) r1 rfl) rfl ⟨rfl, r2.drew⟩
  · have q1 : decide ((i : Int) < (h.up.length : Int)) = false := by simp; omega
    have q2 : decide (i < h.up.length) = false := by simpa using hup
    obtain ⟨rfl, rfl⟩ := HTL.out.1 (by omega)
    go_wp2_with fail
    go_region_held3 (fun w' => w'.cell? ⟨mb, i, none⟩ = some (.int .i64 (hv : Int))) (go_keep) (fail)
    go_wp2
    obtain ⟨r1, r2⟩ := HEND.out w1 HB1.out (.int .i64 (l.hd : Int)) (.int .i64 (hv : Int)) (.int .i64 (hv : Int))
    exact bodyPost_ret (endOf_res (W := World.drew _) r1 rfl) rfl ⟨rfl, r2.drew⟩
end Go.Proofs.YtodilocmfdeehaaGreatDoor.Hi
