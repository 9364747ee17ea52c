/- hier.checkLinks. -/
import Derived.Test.YtodilocmfdeehaaGreatDoorHrG
namespace Go.Proofs.YtodilocmfdeehaaGreatDoor.Hi
open Go.RowKit Go.Extern Go.Shelf

attribute [local go_sem] Oper.semAt_some

/-- while the links are gathered. -/
structure CLI (w : World) (v : HV) (h : Hr) (z : Nat) (pre : List (Nat × Sd)) (Wc : World) : Prop where
  row : ∃ u, Boxed Wc (z + 1 + 1) 147 u ∧ Wc.ownsRow (z + 1) 152 6 u pre.length (flatS (pre.map Prod.snd))
  bx : Wc.heap[z]? = some (.cells (cellsH v h) 25)
  bh : Wc.heap[z + 1 + 1 + 1]? = some (.cells (cellsH v h) 25)
  bl : Below z w Wc
  sz : z + 1 + 1 + 1 + 1 ≤ Wc.heap.size
theorem not_TnI_stand {c : Array Value} : ¬ TnI (.cells c 152) := by
  rintro (h | ⟨c', t, z, h, hh⟩)
  · simp [Obj.isCells] at h
  · injection h with h1 h2 h3
    subst h2
    rcases hh with h | h | h | h <;> revert h <;> decide
theorem CLI.turn {w : World} {v : HV} {h : Hr} {z : Nat} {pre : List (Nat × Sd)} {A C : World} (hi : CLI w v h z pre A) (ht : Turn TnI (z + 1 + 1 + 1 + 1) A C) : CLI w v h z pre C := by
  obtain ⟨⟨u, h1, h2⟩, h3, h4, h5, h6⟩ := hi
  exact ⟨⟨u, (ht.below.block _ (by omega)).trans h1, own_keep h2 fun k cur _ hc => ht.same _ _ hc not_TnI_stand⟩, (ht.below.block _ (by omega)).trans h3, (ht.below.block _ (by omega)).trans h4, h5.trans (ht.below.mono (by omega)), Nat.le_trans h6 ht.below.size⟩
theorem cli_step {w : World} {v : HV} {h : Hr} {z : Nat} {pre : List (Nat × Sd)} {x : Nat × Sd} {Wc w1 : World} {u u' : Value} {tmp : Obj} (hi : CLI w v h z pre Wc) (hv : Boxed Wc (z + 1 + 1) 147 u) (hr : Wc.ownsRow (z + 1) 152 6 u pre.length (flatS (pre.map Prod.snd)))
    (hown' : w1.ownsRow (z + 1) 152 6 u' (pre.length + 1) (flatS (pre.map Prod.snd) ++ (sixC x.2).toList)) (hgrow : (Wc.alloc tmp).grownBy w1 u.ownBlock) :
    Boxed w1 (z + 1 + 1) 147 u ∧ CLI w v h z (pre ++ [x]) (w1.setCell ⟨z + 1 + 1, 0, none⟩ u') ∧ KeepsT TnI (z + 1 + 1 + 1 + 1) Wc (w1.setCell ⟨z + 1 + 1, 0, none⟩ u') := by
  have hs := hi.sz
  obtain ⟨hv1, hv2, hr2, hk2, hb2⟩ := hv.appended (by decide) hr (by omega) (by omega) hown' hgrow
  have hblk : ∀ k, u.ownBlock = some k → ∃ cur, Wc.heap[k]? = some (.cells cur 152) := fun k hk => by
    rcases hr.2 with ⟨rfl, _⟩ | ⟨g, cap, cur, rfl, _, hh, _⟩
    · cases hk
    · cases hk; exact ⟨cur, hh⟩
  have hother : ∀ (k : Nat) (o : Obj), Wc.heap[k]? = some o → (∀ c, o ≠ .cells c 152) → w1.heap[k]? = some o := fun k o hk hn => by
    have e1 : (Wc.alloc tmp).heap[k]? = some o := (Below.heap_alloc _ _ _ (some_lt hk)).trans hk
    refine (hgrow.block k (some_lt e1) (fun e => ?_)).trans e1
    obtain ⟨cur, hc⟩ := hblk k e.symm
    rw [hk] at hc
    cases hc
    exact hn cur rfl
  refine ⟨hv1, ⟨⟨u', hv2, ?_⟩, ?_, ?_, ?_, ?_⟩, ?_⟩
  · rw [List.length_append, List.map_append, flatS_append, List.map_singleton, flatS_one]
    exact hr2
  · exact (Below.heap_setCell _ _ _ _ (by show z ≠ z + 1 + 1; omega)).trans (hother _ _ hi.bx (fun c e => by cases e))
  · exact (Below.heap_setCell _ _ _ _ (by show z + 1 + 1 + 1 ≠ z + 1 + 1; omega)).trans (hother _ _ hi.bh (fun c e => by cases e))
  · exact hi.bl.trans (hb2.mono (by omega))
  · have := hgrow.size
    simp at this
    simp [World.setCell]
    omega
  · refine (((KeepsT.refl _ _ _).alloc tmp).grown hgrow (fun k hk => Or.inr ?_)).setCell (p := ⟨z + 1 + 1, 0, none⟩) (Or.inl (by show z + 1 + 1 < _; omega)) _
    obtain ⟨cur, hc⟩ := hblk k hk
    exact ⟨_, (Below.heap_alloc _ _ _ (some_lt hc)).trans hc, not_TnI_stand⟩
theorem six_new (W : World) (s : Sd) : ∀ j u, (sixC s).toList[j]? = some u → (W.alloc (.cells (sixC s) 152)).cell? ((⟨W.heap.size, 0, none⟩ : Addr).add j) = some u := fun j u hj => by
  have hh := heap_newW W (.cells (sixC s) 152)
  generalize W.alloc (.cells (sixC s) 152) = W' at hh
  have e : (⟨W.heap.size, 0, none⟩ : Addr).add j = ⟨W.heap.size, j, none⟩ := by
    by_cases h0 : j = 0
    · subst h0; rfl
    · simp [Addr.add, h0]
  rw [e]
  have g : (sixC s)[j]? = some u := by rw [← Array.getElem?_toList]; exact hj
  simp [World.cell?, hh, g]
theorem six_one (s : Sd) : ∀ u ∈ (sixC s).toList, u.oneCell' = true := by
  intro u hu
  simp [sixC] at hu
  rcases hu with rfl | rfl | rfl | rfl | rfl | rfl <;> rfl

/-- a way out that is no panic. -/
def noPanic (Q : Exit → Act → World → Prop) (e : Exit) (a : Act) (w : World) : Prop := (∀ ch, e ≠ .panic ch) ∧ Q e a w
theorem wp_quiet {P : Program} {c : Code} {Q : Exit → Act → World → Prop} {a : Act} {w : World} (h : c.wp P (noPanic Q) a w) : c.wp P Q a w := wpIn_wide.1 (wpIn_mono (n := 5) (wpIn_wide.2 h) (fun _ _ _ g => g.2))
theorem keeps_put {w : World} {D : Nat} {d : Option (List Deferred)} (h : w.heap[D]? = some (.deferred d)) (o : Obj) : Keeps w (w.putObj D o) := fun b c hb => by
  rw [World.putObj_heap_other (fun e => by rw [e, h] at hb; cases hb)]
  exact hb
theorem end_at {w wx : World} {z D : Nat} {c k : Int} (hz : z ≤ D) (hD : wx.heap[D]? = some (.deferred (some []))) (hb : Below z w wx) (hc : c ≠ 0) :
    (wx.alloc (.cells #[.int .i64 4, .int .i64 k, .iface 61 (.int .i64 c)] 83)).heap[D]? = some (.deferred (some [])) ∧ IsTold ((wx.alloc (.cells #[.int .i64 4, .int .i64 k, .iface 61 (.int .i64 c)] 83)).putObj D (.deferred none)) (c, [(4, k)]) (.iface 79 (.pointer (some ⟨wx.heap.size, 0, none⟩))) ∧ Below z w ((wx.alloc (.cells #[.int .i64 4, .int .i64 k, .iface 61 (.int .i64 c)] 83)).putObj D (.deferred none)) := by
  have hlt := some_lt hD
  have h1 : (wx.alloc (.cells #[.int .i64 4, .int .i64 k, .iface 61 (.int .i64 c)] 83)).heap[D]? = some (.deferred (some [])) := (Below.heap_alloc _ _ _ hlt).trans hD
  exact ⟨h1, (told_at wx hc).keep (keeps_put h1 _), hb.trans (((Turn.refl TnC z wx).alloc (by omega) _).putObj hz h1 rfl _).below⟩

set_option maxRecDepth 100000 in
set_option maxHeartbeats 8000000 in
theorem checkLinks_calls (v : HV) (h : Hr) (w : World) (hH : HasH w v h) (hn : h.node.length ≤ 65536) (hm : h.up.length + h.dn.length ≤ 1048576) (hu : FOk h.upF h.up.length) (hd : FOk h.dnF h.dn.length) (hun : h.upF.length = h.node.length + 1) (hdn : h.dnF.length = h.node.length + 1) :
    Calls Tryz.prog 58 #[hvl v h] w fun e w' => ∃ u, e = .returned u ∧ IsTold w' (cl h.node.length (stds h)) u ∧ Below w.heap.size w w' := by
  refine (callsIn_wide (n := 5)).1 (callsIn_of_wp_marks Tryz.func58 rfl trivial (wpIn_wide.2 (wp_quiet ?_)) rfl)
  have HSL : Hid ((stds h).length = h.up.length + h.dn.length) := stds_len hu hd
  have HSO : Hid (∀ s ∈ stds h, s.ok) := stds_ok hu hd (by omega) (by omega) hH.up.ok hH.dn.ok
  have HH : Hid (HasH w v h) := hH
  have HU : Hid (FOk h.upF h.up.length ∧ FOk h.dnF h.dn.length) := ⟨hu, hd⟩
  have HUN : Hid (h.upF.length ≤ 65537 ∧ h.dnF.length ≤ 65537) := ⟨by omega, by omega⟩
  clear hun hdn
  obtain ⟨m, hm1⟩ : ∃ m, h.up.length + h.dn.length = m := ⟨_, rfl⟩
  rw [hm1] at hm HSL
  have wm : IntKind.i64.wrap ((h.up.length : Int) + (h.dn.length : Int)) = (m : Int) := by rw [IntKind.wrap_i64]; omega
  have HMM : Hid (h.up.length + h.dn.length = m) := hm1
  obtain ⟨W0, hW0⟩ : ∃ W0, w.alloc (.cells (cellsH v h) 25) = W0 := ⟨_, rfl⟩
  obtain ⟨cs, hcs, hmk⟩ := make_ss m hm W0
  have hB0 : Below w.heap.size w W0 := by rw [← hW0]; exact (Below.refl _ _).alloc (Nat.le_refl _) _
  have hx0 : W0.heap[w.heap.size]? = some (.cells (cellsH v h) 25) := by rw [← hW0]; exact heap_newW _ _
  have hs0 : W0.heap.size = w.heap.size + 1 := by rw [← hW0]; simp
  have HW0 : Hid (w.alloc (.cells (cellsH v h) 25) = W0) := hW0
  have HX0 : Hid (W0.heap[w.heap.size]? = some (.cells (cellsH v h) 25) ∧ Below w.heap.size w W0) := ⟨hx0, hB0⟩
  obtain ⟨c0, c1, c2, c3, c4⟩ := five_cells hx0
  clear hW0 hx0 hB0 hm1 hu hd hH
  unfold hvl
  unfold cellsH at HW0
  simp only [List.size_toArray, List.length_cons, List.length_nil, Tryz.ntmps58, Nat.reduceAdd, Nat.reduceSub, Array.replicate_succ, Array.replicate_zero, List.push_toArray, List.append_toArray, List.nil_append, List.cons_append]
  go_upto_region 1 with fail
  rw [HW0.out]
  go_wp2_with (go_at_call 85; refine (links_calls v h _).mono ?_; rintro e w' ⟨rfl, rfl⟩)
  have hI0 : CLI w v h w.heap.size [] (((W0.alloc (.cells cs 152)).alloc (.cells #[.slice (some ⟨w.heap.size + 1, 0, none⟩) 0 m] 147)).alloc (.cells (cellsH v h) 25)) := by
    have o1 := own_made W0 m cs hcs hm
    rw [hs0] at o1
    refine ⟨⟨_, ?_, (o1.alloc _).alloc _⟩, ?_, ?_, ?_, by simp; omega⟩
    · have g := (Boxed.new (W0.alloc (.cells cs 152)) 147 (.slice (some ⟨w.heap.size + 1, 0, none⟩) 0 m)).alloc (.cells (cellsH v h) 25)
      rw [World.size_alloc, hs0] at g
      exact g
    · exact ((Below.heap_alloc _ _ _ (by simp; omega)).trans ((Below.heap_alloc _ _ _ (by simp; omega)).trans (Below.heap_alloc _ _ _ (by omega)))).trans HX0.out.1
    · have g := heap_newW ((W0.alloc (.cells cs 152)).alloc (.cells #[.slice (some ⟨w.heap.size + 1, 0, none⟩) 0 m] 147)) (.cells (cellsH v h) 25)
      rw [World.size_alloc, World.size_alloc, hs0] at g
      exact g
    · exact HX0.out.2.trans ((((Below.refl _ _).alloc (by omega) _).alloc (by simp; omega) _).alloc (by simp; omega) _)
  have hs1 : (((W0.alloc (.cells cs 152)).alloc (.cells #[.slice (some ⟨w.heap.size + 1, 0, none⟩) 0 m] 147)).alloc (.cells (cellsH v h) 25)).heap.size = w.heap.size + 1 + 1 + 1 + 1 := by simp [hs0]
  generalize ((W0.alloc (.cells cs 152)).alloc (.cells #[.slice (some ⟨w.heap.size + 1, 0, none⟩) 0 m] 147)).alloc (.cells (cellsH v h) 25) = W1 at *
  clear hmk hcs c0 c1 c2 c3 c4 HX0 HW0 hs0 wm
  obtain ⟨z, hz⟩ : ∃ z, w.heap.size = z := ⟨_, rfl⟩
  have HZ : Hid (w.heap.size = z) := hz
  rw [hz] at hI0 hs1 ⊢
  clear hz
  have HI : AbT TnI W1.heap.size (fun (p : List (Nat × Sd)) Wc => CLI w v h z p Wc) := by
    rw [hs1]; exact fun s A C hs ht => hs.turn ht
  obtain ⟨i0, hi9, hzz⟩ := Option.map_eq_some_iff.1 infoSt
  simp only [Prod.mk.injEq] at hzz
  obtain ⟨hz0, hz1, hz2⟩ := hzz
  refine (wpIn_wide (n := 5)).1 ?_
  refine wp_over (xs := numd 0 (stds h)) rfl (fun h => (by cases h)) (gf := 103) (lb := #[.pointer (some ⟨z + 1 + 1 + 1, 0, none⟩)]) rfl trivial (enters_of Tryz.func103 (by kernel_rfl) rfl)
    (links1_seq _ (z + 1 + 1 + 1) v h HU.out.1 HU.out.2 HUN.out.1 HUN.out.2 (by have := HMM.out; omega) (by have := HMM.out; omega) (z + 1 + 1 + 1 + 1) (by omega)) (by rw [hs1]; exact Nat.le_refl _) (fun _ => Or.inl rfl) (fun _ => Or.inl rfl) (fun _ => rfl) _ (fun _ _ => False) HI (fun _ _ _ h _ => h) (fun pre Wc hi => ⟨hi.bh, HH.out.keep (by rw [HZ.out]; exact hi.bl)⟩) hI0
    (fun x a' Wc => ∃ Bx, Wc.heap[Bx]? = some (.cells (sixC x.2) 152) ∧ a' = { tmps := #[.agg #[.slice v.no h.node.length v.nc, .slice v.uo h.upF.length v.uc, .slice v.ul h.up.length v.ulc, .slice v.wo h.dnF.length v.wc, .slice v.dl h.dn.length v.dlc], .pointer (some ⟨z, 0, none⟩), .nilIface, .pointer (some ⟨z + 1 + 1, 0, none⟩), undef, .pointer (some ⟨Bx, 0, none⟩), undef, undef, undef, undef, .pointer (some ⟨z, 2, none⟩), .slice v.ul h.up.length v.ulc, .int .i64 (h.up.length : Int), .pointer (some ⟨z, 4, none⟩), .slice v.dl h.dn.length v.dlc, .int .i64 (h.dn.length : Int), .int .i64 (m : Int), .slice (some ⟨z + 1, 0, none⟩) 0 m, .agg #[.slice v.no h.node.length v.nc, .slice v.uo h.upF.length v.uc, .slice v.ul h.up.length v.ulc, .slice v.wo h.dnF.length v.wc, .slice v.dl h.dn.length v.dlc], .func (.func 103) #[] #[.pointer (some ⟨z + 1 + 1 + 1, 0, none⟩)], .int .i64 (x.1 : Int), svl x.2, undef, undef, undef, undef, undef, undef, undef, undef, undef, undef, undef, undef, undef, undef, undef, undef, undef, undef, undef, undef, undef, undef, undef, undef, undef, undef, undef, undef, undef, undef, undef, undef, undef, undef, undef, undef, undef, undef, undef, undef, undef, undef, undef, undef, undef, undef, undef, undef, undef, undef, undef, undef, undef, undef, undef, undef, undef, undef, undef, undef, undef, undef, undef, undef, undef, undef, undef, undef], defers := [] })
    (fun x a' _ A C hs ht => by obtain ⟨Bx, h1, h2⟩ := hs; exact ⟨Bx, ht.same _ _ h1 not_TnI_stand, h2⟩) ?assign ?body ?done (fun _ _ _ _ _ h _ => h.elim)
  case assign =>
    rintro l2 pre x Wc K hi _ hK
    have HHI : Hid (CLI w v h z pre Wc) := hi
    clear hi
    obtain ⟨k, ⟨⟨hd, wt, lf, rt⟩, rk, up⟩⟩ := x
    dsimp only [encS, svl]
    gi_wp2
    exact hK _ _ ((KeepsT.refl _ _ _).alloc _) (HHI.out.turn ((Turn.refl _ _ _).alloc HHI.out.sz _)) ⟨Wc.heap.size, heap_newW _ _, rfl⟩
  case body =>
    rintro l2 pre x a' Wc hl2 hi ⟨Bx, bX, rfl⟩ hp
    have HHI : Hid (CLI w v h z pre Wc) := hi
    have hlen : pre.length < m := by have := hp.length_le; rw [numd_len, HSL.out] at this; simp at this; omega
    obtain ⟨u, hv, hr⟩ := hi.row
    have hsz := hi.sz
    have g1 := hv.cell
    obtain ⟨g3, g4, g5, g6, g7, g8⟩ := six_of bX
    obtain ⟨k, s⟩ := x
    dsimp only at g3 g4 g5 g6 g7 g8
    have HHV : Hid (Boxed Wc (z + 1 + 1) 147 u) := hv
    have HHR : Hid (Wc.ownsRow (z + 1) 152 6 u pre.length (flatS (pre.map Prod.snd))) := hr
    clear hi bX hv
    dsimp only [svl]
    gi_wp2_with (gi_at_builtin; refine wpListIn_append_own _ rfl _ _ 147 rfl (z + 1) 152 i0 (.agg #[.int .u32 0, .int .u64 0, .int .u32 0, .int .u32 0, .int .u32 0, .bool false]) 6 32 Tryz.underlying147 hi9 hz0 hz1 hz2 rfl (by decide) _ _ _ rfl (hr.alloc _) ⟨Wc.heap.size, 0, none⟩ 1 1 (sixC s).toList rfl rfl (six_new _ _) (six_one s) (by unfold maxLen; omega) (by omega) (by simp; omega) ?_; intro v' w1 hown' hgrow _; obtain ⟨g', cap', rfl⟩ := ownsRow_succ hown'; obtain ⟨q1, q2, q3⟩ := cli_step (x := (k, s)) HHI.out HHV.out HHR.out hown' hgrow; have HQ : Hid (CLI w v h z (pre ++ [(k, s)]) (w1.setCell ⟨z + 1 + 1, 0, none⟩ (.slice (some ⟨g', 0, none⟩) (pre.length + 1) cap')) ∧ KeepsT TnI (z + 1 + 1 + 1 + 1) Wc (w1.setCell ⟨z + 1 + 1, 0, none⟩ (.slice (some ⟨g', 0, none⟩) (pre.length + 1) cap'))) := ⟨q2, q3⟩; have y1 := q1.cell; have y2 := q1.frozen; clear q1 q2 q3 hown' hgrow)
    exact ⟨by rw [hs1]; exact HQ.out.2, HQ.out.1⟩
  case done =>
    rintro D Wd hD hi hK
    obtain ⟨u, hv, hr⟩ := hi.row
    rw [numd_len, numd_map] at hr
    obtain ⟨hss, hll⟩ := ss_of_own hr HSO.out
    obtain ⟨ao, cap, hu0, hcapm, _⟩ := hss
    rw [HSL.out] at hu0 hcapm
    subst hu0
    obtain ⟨hss, _⟩ := ss_of_own hr HSO.out
    rw [hs1] at hD
    obtain ⟨n, hn0⟩ : ∃ n, h.node.length = n := ⟨_, rfl⟩
    obtain ⟨al, hal⟩ : ∃ al, stds h = al := ⟨_, rfl⟩
    have HKA : Hid (∀ wx, Below Wd.heap.size Wd wx → wx.cell? ⟨z + 1 + 1, 0, none⟩ = some (.slice ao m cap) ∧ wx.cell? ⟨z, 0, none⟩ = some (.slice v.no n v.nc) ∧ HasSs wx (.slice ao m cap) al ∧ wx.heap[D]? = some (.deferred (some [])) ∧ Below z w wx ∧ z < wx.heap.size ∧ z + 1 + 1 < wx.heap.size) := fun wx hx => by
      have hsz := hi.sz
      have c9 := (five_cells ((hx.block _ (by omega)).trans hi.bx)).1
      rw [hn0] at c9
      rw [← hal]
      exact ⟨(hx.cell (p := ⟨z + 1 + 1, 0, none⟩) (by show z + 1 + 1 < _; omega)).trans hv.cell, c9, hss.keep hx, (hx.block _ (some_lt hK)).trans hK, hi.bl.trans (hx.mono (by omega)), by have := hx.size; omega, by have := hx.size; omega⟩
    have HAL : Hid (al.length = m ∧ ∀ s ∈ al, s.ok) := by rw [← hal]; exact ⟨HSL.out, HSO.out⟩
    have HCL : Hid (cl h.node.length (stds h) = ferr 4 (lerr n al) 0 m) := by show _ = _; rw [cl, hn0, hal, ← HAL.out.1]
    rw [hn0] at hn
    have hzD : z ≤ D := by omega
    clear hi hK hv hr hss hll HSL HSO HI HH HU HUN HMM hI0 hal hi9 hz0 hz1 hz2 hs1
    have HWd : Hid (Below Wd.heap.size Wd Wd) := Below.refl _ _
    obtain ⟨c1, c2, _⟩ := HKA.out Wd HWd.out
    go_wp2_with fail
    go_loopw [28] (fun iv wr => ∃ i : Nat, i ≤ m ∧ iv = .int .i64 i ∧ Hid (Below Wd.heap.size Wd wr) ∧ Hid (ferr 4 (lerr n al) 0 m = ferr 4 (lerr n al) i (m - i))) (fun iv _ => m - (intOf iv).toNat)
    case atStart => exact ⟨0, by omega, rfl, HWd, rfl⟩
    case round =>
      obtain ⟨i, hi, rfl, HB, HF⟩ := hrel
      clear c1 c2
      rcases Nat.lt_or_eq_of_le hi with h1 | h1
      · obtain ⟨c1, c2, hss, hDk, hbl, hzs, hzs2⟩ := HKA.out wr HB.out
        obtain ⟨s, hs⟩ : ∃ s, sd al i = s := ⟨_, rfl⟩
        have gs := sd_get (all := al) (i := i) (by rw [HAL.out.1]; exact h1)
        rw [hs] at gs
        have hsok : s.ok := HAL.out.2 s (List.mem_of_getElem? gs)
        obtain ⟨_, b, off, e1, hb, s6⟩ := hss.at gs
        subst e1
        have HS : Hid (sd al i = s ∧ s.ok) := ⟨hs, hsok⟩
        have HSS : Hid (HasSs wr (.slice (some ⟨b, off, none⟩) m cap) al ∧ wr.heap[D]? = some (.deferred (some [])) ∧ Below z w wr) := ⟨hss, hDk, hbl⟩
        obtain ⟨a0, a1, a2, a3, a4, a5⟩ := s6
        have i1 : (i : Int) < (m : Int) := by omega
        clear hs gs hsok hss hDk hbl
        go_upto_region 8 with fail
        have hpn := heap_newW wr (.cells (sixC s) 152)
        have HB2 : Hid (Below wr.heap.size wr (wr.alloc (.cells (sixC s) 152))) := (Below.refl _ _).alloc (Nat.le_refl _) _
        have hsz2 : wr.heap.size < (wr.alloc (.cells (sixC s) 152)).heap.size := by simp
        unfold sixC at hpn HB2 hsz2
        generalize wr.alloc (.cells #[.int .u32 (s.lk.hd : Int), .int .u64 (s.lk.wt : Int), .int .u32 (s.lk.lf : Int), .int .u32 (s.lk.rt : Int), .int .u32 (s.rk : Int), .bool s.up] 152) = W2 at *
        have b1 := (HB2.out.cell (p := ⟨z + 1 + 1, 0, none⟩) hzs2).trans c1
        have b2 := (HB2.out.cell (p := ⟨z, 0, none⟩) hzs).trans c2
        have hss2 := HSS.out.1.keep HB2.out
        have HE2 : Hid (∀ wx, Below W2.heap.size W2 wx → HasSs wx (.slice (some ⟨b, off, none⟩) m cap) al ∧ wx.heap[D]? = some (.deferred (some [])) ∧ Below z w wx ∧ Below Wd.heap.size Wd wx) := fun wx hx => by
          have hwx : Below wr.heap.size wr wx := HB2.out.trans (hx.mono HB2.out.size)
          exact ⟨hss2.keep hx, (hwx.block _ (some_lt HSS.out.2.1)).trans HSS.out.2.1, HSS.out.2.2.trans (hwx.mono (by omega)), HB.out.trans (hwx.mono HB.out.size)⟩
        obtain ⟨p, hp⟩ : ∃ p, wr.heap.size = p := ⟨_, rfl⟩
        have HP0 : Hid (wr.heap.size = p) := hp
        rw [hp] at hpn hsz2 ⊢
        clear hp
        obtain ⟨d0, d1, d2, d3, d4, d5⟩ := six_of hpn
        have hz2 : z < W2.heap.size := by have := HB2.out.size; omega
        have hz3 : z + 1 + 1 < W2.heap.size := by have := HB2.out.size; omega
        have hb2 : b < W2.heap.size := by have := HB2.out.size; omega
        have HKP : Hid (∀ wx, Below W2.heap.size W2 wx → (wx.cell? ⟨p, 0, none⟩ = some (.int .u32 (s.lk.hd : Int)) ∧ wx.cell? ⟨p, 1, none⟩ = some (.int .u64 (s.lk.wt : Int)) ∧ wx.cell? ⟨p, 2, none⟩ = some (.int .u32 (s.lk.lf : Int)) ∧ wx.cell? ⟨p, 3, none⟩ = some (.int .u32 (s.lk.rt : Int)) ∧ wx.cell? ⟨p, 4, none⟩ = some (.int .u32 (s.rk : Int)) ∧ wx.cell? ⟨p, 5, none⟩ = some (.bool s.up)) ∧ wx.cell? ⟨z, 0, none⟩ = some (.slice v.no n v.nc) ∧ wx.cell? ⟨z + 1 + 1, 0, none⟩ = some (.slice (some ⟨b, off, none⟩) m cap)) := fun wx hx => ⟨⟨(hx.cell (p := ⟨p, 0, none⟩) hsz2).trans d0, (hx.cell (p := ⟨p, 1, none⟩) hsz2).trans d1, (hx.cell (p := ⟨p, 2, none⟩) hsz2).trans d2, (hx.cell (p := ⟨p, 3, none⟩) hsz2).trans d3, (hx.cell (p := ⟨p, 4, none⟩) hsz2).trans d4, (hx.cell (p := ⟨p, 5, none⟩) hsz2).trans d5⟩, (hx.cell (p := ⟨z, 0, none⟩) hz2).trans b2, (hx.cell (p := ⟨z + 1 + 1, 0, none⟩) hz3).trans b1⟩
        clear c1 c2 a0 a1 a2 a3 a4 a5 HSS
        obtain ⟨ri, hri⟩ : ∃ ri, rising al i = ri := ⟨_, rfl⟩
        have HRI : Hid (rising al i = ri) := hri
        clear hri
        go_cut [8] from 29 to 89 (fun c wx => c = .bool ri ∧ Below W2.heap.size W2 wx)
        case first =>
          by_cases hi0 : i = 0
          · subst hi0
            obtain rfl : ri = true := by rw [← HRI.out]; simp [rising]
            go_quiet (fail)
            go_wp2_with fail
            go_meet
            exact ⟨rfl, below_drewN (Below.refl _ _) _⟩
          · obtain ⟨j, hj⟩ : ∃ j, i = j + 1 := ⟨i - 1, by omega⟩
            have wj : IntKind.i64.wrap ((i : Int) - 1) = (j : Int) := by rw [IntKind.wrap_i64]; omega
            have hjm : (j : Int) < (m : Int) := by omega
            have hi2 : ((i : Int) == 0) = false := by simp; omega
            obtain ⟨r, hr⟩ : ∃ r, sd al j = r := ⟨_, rfl⟩
            have gr := sd_get (all := al) (i := j) (by rw [HAL.out.1]; omega)
            rw [hr] at gr
            obtain ⟨_, b', off', e1, _, r6⟩ := hss2.at gr
            injection e1 with e1
            injection e1 with g1 g2
            subst g1 g2
            have HRR : Hid (ri = (!sameRow r s || decide (r.lk.hd < s.lk.hd))) := by
              show _ = _
              rw [← HRI.out, rising, show i - 1 = j by omega, hr, HS.out.1, show (i == 0) = false from beq_false_of_ne hi0]
              simp only [Bool.false_or]
            obtain ⟨r0, r1, r2, r3, r4, r5⟩ := r6
            have HK2 : Hid (∀ wx, Below W2.heap.size W2 wx → wx.cell? ⟨z + 1 + 1, 0, none⟩ = some (.slice (some ⟨b, off, none⟩) m cap) ∧ (wx.cell? ⟨b, off + j * 6, none⟩ = some (.int .u32 (r.lk.hd : Int)) ∧ wx.cell? ⟨b, off + j * 6 + 1, none⟩ = some (.int .u64 (r.lk.wt : Int)) ∧ wx.cell? ⟨b, off + j * 6 + 2, none⟩ = some (.int .u32 (r.lk.lf : Int)) ∧ wx.cell? ⟨b, off + j * 6 + 3, none⟩ = some (.int .u32 (r.lk.rt : Int)) ∧ wx.cell? ⟨b, off + j * 6 + 4, none⟩ = some (.int .u32 (r.rk : Int)) ∧ wx.cell? ⟨b, off + j * 6 + 5, none⟩ = some (.bool r.up)) ∧ (wx.cell? ⟨p, 0, none⟩ = some (.int .u32 (s.lk.hd : Int)) ∧ wx.cell? ⟨p, 1, none⟩ = some (.int .u64 (s.lk.wt : Int)) ∧ wx.cell? ⟨p, 2, none⟩ = some (.int .u32 (s.lk.lf : Int)) ∧ wx.cell? ⟨p, 3, none⟩ = some (.int .u32 (s.lk.rt : Int)) ∧ wx.cell? ⟨p, 4, none⟩ = some (.int .u32 (s.rk : Int)) ∧ wx.cell? ⟨p, 5, none⟩ = some (.bool s.up))) := fun wx hx => ⟨(hx.cell (p := ⟨z + 1 + 1, 0, none⟩) hz3).trans b1, ⟨(hx.cell (p := ⟨b, _, none⟩) hb2).trans r0, (hx.cell (p := ⟨b, _, none⟩) hb2).trans r1, (hx.cell (p := ⟨b, _, none⟩) hb2).trans r2, (hx.cell (p := ⟨b, _, none⟩) hb2).trans r3, (hx.cell (p := ⟨b, _, none⟩) hb2).trans r4, (hx.cell (p := ⟨b, _, none⟩) hb2).trans r5⟩, (hx.cell (p := ⟨p, 0, none⟩) hsz2).trans d0, (hx.cell (p := ⟨p, 1, none⟩) hsz2).trans d1, (hx.cell (p := ⟨p, 2, none⟩) hsz2).trans d2, (hx.cell (p := ⟨p, 3, none⟩) hsz2).trans d3, (hx.cell (p := ⟨p, 4, none⟩) hsz2).trans d4, (hx.cell (p := ⟨p, 5, none⟩) hsz2).trans d5⟩
            have HSR : Hid (∀ wx, Below W2.heap.size W2 wx → Calls Tryz.prog 86 #[.agg #[.int .u32 (r.lk.hd : Int), .int .u64 (r.lk.wt : Int), .int .u32 (r.lk.lf : Int), .int .u32 (r.lk.rt : Int), .int .u32 (r.rk : Int), .bool r.up], .agg #[.int .u32 (s.lk.hd : Int), .int .u64 (s.lk.wt : Int), .int .u32 (s.lk.lf : Int), .int .u32 (s.lk.rt : Int), .int .u32 (s.rk : Int), .bool s.up]] wx fun e w' => e = .returned (.bool (sameRow r s)) ∧ Below W2.heap.size W2 w') := fun wx hwx => (sameRow_calls r s wx).mono fun e w' ⟨h1, h2⟩ => ⟨h1, hwx.trans (h2.mono hwx.size)⟩
            clear hj hr gr hss2 hi0
            obtain ⟨sr, hsr⟩ : ∃ sr, sameRow r s = sr := ⟨_, rfl⟩
            rw [hsr] at HRR HSR
            clear hsr
            cases sr
            case false =>
              obtain rfl : ri = true := by rw [HRR.out]; simp
              refine wp_region_held_drew (S := fun w' => w'.cell? ⟨z + 1 + 1, 0, none⟩ = some (.slice (some ⟨b, off, none⟩) m cap) ∧ (w'.cell? ⟨b, off + j * 6, none⟩ = some (.int .u32 (r.lk.hd : Int)) ∧ w'.cell? ⟨b, off + j * 6 + 1, none⟩ = some (.int .u64 (r.lk.wt : Int)) ∧ w'.cell? ⟨b, off + j * 6 + 2, none⟩ = some (.int .u32 (r.lk.lf : Int)) ∧ w'.cell? ⟨b, off + j * 6 + 3, none⟩ = some (.int .u32 (r.lk.rt : Int)) ∧ w'.cell? ⟨b, off + j * 6 + 4, none⟩ = some (.int .u32 (r.rk : Int)) ∧ w'.cell? ⟨b, off + j * 6 + 5, none⟩ = some (.bool r.up)) ∧ (w'.cell? ⟨p, 0, none⟩ = some (.int .u32 (s.lk.hd : Int)) ∧ w'.cell? ⟨p, 1, none⟩ = some (.int .u64 (s.lk.wt : Int)) ∧ w'.cell? ⟨p, 2, none⟩ = some (.int .u32 (s.lk.lf : Int)) ∧ w'.cell? ⟨p, 3, none⟩ = some (.int .u32 (s.lk.rt : Int)) ∧ w'.cell? ⟨p, 4, none⟩ = some (.int .u32 (s.rk : Int)) ∧ w'.cell? ⟨p, 5, none⟩ = some (.bool s.up))) (by kernel_rfl) (HK2.out _ (Below.refl _ _).drew) (fun hHeld => ?_)
              refine wpAnyH_take (i := 0) (oi := ⟨some 33, .move (.tmp 6), 3, "check.go:58", #[], none⟩) (v := ?va0) rfl (by kernel_rfl) (by kernel_rfl) (by kernel_rfl) (fun _ _ _ h => absurd rfl (h.1 _)) (Or.inl ⟨by rfl, ?ha0⟩) (by assumption) ?ra0
              case ha0 => ((intro wz hSw; (try dsimp only at hSw); go_simp); try (with_reducible rfl))
              simp only [Act.put, List.setIfInBounds_toArray, List.set_cons_zero, List.set_cons_succ]
              refine wpAnyH_take (i := 1) (oi := ⟨some 34, .binOp .eql 3 (.tmp 33) (.const (.int .i64 0)) 3, 4, "check.go:58", #[⟨0, .data⟩], none⟩) (v := ?va1) rfl (by kernel_rfl) (by kernel_rfl) (by kernel_rfl) (fun _ _ _ h => absurd rfl (h.1 _)) (Or.inl ⟨by rfl, ?ha1⟩) (by assumption) ?ra1
              case ha1 => ((intro wz hSw; (try dsimp only at hSw); go_simp); try (with_reducible rfl))
              simp only [Act.put, List.setIfInBounds_toArray, List.set_cons_zero, List.set_cons_succ]
              refine wpAnyH_take (i := 2) (oi := ⟨some 35, .move (.tmp 34), 4, "check.go:58", #[⟨1, .data⟩], none⟩) (v := ?va2) rfl (by kernel_rfl) (by kernel_rfl) (by kernel_rfl) (fun _ _ _ h => absurd rfl (h.1 _)) (Or.inl ⟨by rfl, ?ha2⟩) (by assumption) ?ra2
              case ha2 => ((intro wz hSw; (try dsimp only at hSw); go_simp); try (with_reducible rfl))
              simp only [Act.put, List.setIfInBounds_toArray, List.set_cons_zero, List.set_cons_succ]
              refine wpAnyH_take (i := 3) (oi := ⟨some 36, .load 147 (.tmp 3), 147, "check.go:58", #[⟨2, .guard⟩], some (2, false)⟩) (v := ?va3) rfl (by kernel_rfl) (by kernel_rfl) (by kernel_rfl) (fun _ _ _ h => absurd rfl (h.1 _)) (Or.inl ⟨by rfl, ?ha3⟩) (by assumption) ?ra3
              case ha3 => ((intro wz hSw; (try dsimp only at hSw); go_simp); try (with_reducible rfl))
              simp only [Act.put, List.setIfInBounds_toArray, List.set_cons_zero, List.set_cons_succ]
              refine wpAnyH_take (i := 4) (oi := ⟨some 37, .move (.tmp 6), 3, "check.go:58", #[⟨2, .guard⟩], some (2, false)⟩) (v := ?va4) rfl (by kernel_rfl) (by kernel_rfl) (by kernel_rfl) (fun _ _ _ h => absurd rfl (h.1 _)) (Or.inl ⟨by rfl, ?ha4⟩) (by assumption) ?ra4
              case ha4 => ((intro wz hSw; (try dsimp only at hSw); go_simp); try (with_reducible rfl))
              simp only [Act.put, List.setIfInBounds_toArray, List.set_cons_zero, List.set_cons_succ]
              refine wpAnyH_take (i := 5) (oi := ⟨some 38, .binOp .sub 3 (.tmp 37) (.const (.int .i64 1)) 3, 3, "check.go:58", #[⟨4, .data⟩, ⟨2, .guard⟩], some (2, false)⟩) (v := ?va5) rfl (by kernel_rfl) (by kernel_rfl) (by kernel_rfl) (fun _ _ _ h => absurd rfl (h.1 _)) (Or.inl ⟨by rfl, ?ha5⟩) (by assumption) ?ra5
              case ha5 => ((intro wz hSw; (try dsimp only at hSw); go_simp); try (with_reducible rfl))
              simp only [Act.put, List.setIfInBounds_toArray, List.set_cons_zero, List.set_cons_succ]
              refine wpAnyH_take (i := 6) (oi := ⟨some 39, .indexAddr 147 (.tmp 36) (.tmp 38), 0, "check.go:58", #[⟨3, .data⟩, ⟨5, .data⟩, ⟨2, .guard⟩], some (2, false)⟩) (v := ?va6) rfl (by kernel_rfl) (by kernel_rfl) (by kernel_rfl) (fun _ _ _ h => absurd rfl (h.1 _)) (Or.inl ⟨by rfl, ?ha6⟩) (by assumption) ?ra6
              case ha6 => ((intro wz hSw; (try dsimp only at hSw); go_simp); try (with_reducible rfl))
              simp only [Act.put, List.setIfInBounds_toArray, List.set_cons_zero, List.set_cons_succ]
              refine wpAnyH_take (i := 7) (oi := ⟨some 40, .load 152 (.tmp 39), 152, "check.go:58", #[⟨6, .data⟩, ⟨2, .guard⟩], some (2, false)⟩) (v := ?va7) rfl (by kernel_rfl) (by kernel_rfl) (by kernel_rfl) (fun _ _ _ h => absurd rfl (h.1 _)) (Or.inl ⟨by rfl, ?ha7⟩) (by assumption) ?ra7
              case ha7 => ((intro wz hSw; (try dsimp only at hSw); go_simp); try (with_reducible rfl))
              simp only [Act.put, List.setIfInBounds_toArray, List.set_cons_zero, List.set_cons_succ]
              refine wpAnyH_take (i := 8) (oi := ⟨some 41, .load 152 (.tmp 7), 152, "check.go:58", #[⟨2, .guard⟩], some (2, false)⟩) (v := ?va8) rfl (by kernel_rfl) (by kernel_rfl) (by kernel_rfl) (fun _ _ _ h => absurd rfl (h.1 _)) (Or.inl ⟨by rfl, ?ha8⟩) (by assumption) ?ra8
              case ha8 => ((intro wz hSw; (try dsimp only at hSw); go_simp); try (with_reducible rfl))
              simp only [Act.put, List.setIfInBounds_toArray, List.set_cons_zero, List.set_cons_succ]
              refine wpAnyH_ready (rs := [9]) (by kernel_rfl) (by simp) ?_
              refine AllReadyH.cons (o := ⟨some 42, .call { callee := .value (.func 86), args := #[.tmp 40, .tmp 41], argTypes := #[152, 152] }, 4, "check.go:58", #[⟨7, .data⟩, ⟨8, .data⟩, ⟨2, .chain⟩, ⟨2, .guard⟩], some (2, false)⟩) rfl (fun K hK => ?_) AllReadyH.nil
              go_simp
              go_at_call 86
              refine (HSR.out _ (Below.refl _ _).drew).mono ?_
              rintro e wa ⟨rfl, hbw⟩
              go_wp2_with fail
              refine hK.out _ _ (HK2.out _ hbw) (fun hHeld1 => ?_)
              clear hK K hHeld
              refine wpAnyH_take (i := 10) (oi := ⟨some 43, .unOp .not 4 (.tmp 42), 4, "check.go:58", #[⟨9, .data⟩, ⟨2, .guard⟩], some (2, false)⟩) (v := ?va10) rfl (by kernel_rfl) (by kernel_rfl) (by kernel_rfl) (fun _ _ _ h => absurd rfl (h.1 _)) (Or.inl ⟨by rfl, ?ha10⟩) (by assumption) ?ra10
              case ha10 => ((intro wz hSw; (try dsimp only at hSw); go_simp); try (with_reducible rfl))
              simp only [Act.put, List.setIfInBounds_toArray, List.set_cons_zero, List.set_cons_succ]
              refine wpAnyH_take (i := 11) (oi := ⟨some 44, .pick (.tmp 35) (.const (.bool true)) (.tmp 43), 4, "check.go:58", #[⟨2, .data⟩, ⟨10, .data⟩], none⟩) (v := ?va11) rfl (by kernel_rfl) (by kernel_rfl) (by kernel_rfl) (fun _ _ _ h => absurd rfl (h.1 _)) (Or.inl ⟨by rfl, ?ha11⟩) (by assumption) ?ra11
              case ha11 => ((intro wz hSw; (try dsimp only at hSw); go_simp); try (with_reducible rfl))
              simp only [Act.put, List.setIfInBounds_toArray, List.set_cons_zero, List.set_cons_succ]
              refine wpAnyH_take (i := 12) (oi := ⟨some 45, .move (.tmp 44), 4, "check.go:58", #[⟨11, .data⟩, ⟨9, .chain⟩], none⟩) (v := ?va12) rfl (by kernel_rfl) (by kernel_rfl) (by kernel_rfl) (fun _ _ _ h => absurd rfl (h.1 _)) (Or.inl ⟨by rfl, ?ha12⟩) (by assumption) ?ra12
              case ha12 => ((intro wz hSw; (try dsimp only at hSw); go_simp); try (with_reducible rfl))
              simp only [Act.put, List.setIfInBounds_toArray, List.set_cons_zero, List.set_cons_succ]
              refine wpAnyH_take (i := 13) (oi := ⟨some 46, .load 147 (.tmp 3), 147, "check.go:58", #[⟨12, .guard⟩], some (12, false)⟩) (v := undef) rfl (by kernel_rfl) (by kernel_rfl) (by kernel_rfl) (fun _ _ _ h => absurd rfl (h.1 _)) (Or.inr ⟨by rfl, rfl⟩) (by assumption) ?_
              simp only [Act.put, List.setIfInBounds_toArray, List.set_cons_zero, List.set_cons_succ]
              refine wpAnyH_take (i := 14) (oi := ⟨some 47, .move (.tmp 6), 3, "check.go:58", #[⟨12, .guard⟩], some (12, false)⟩) (v := undef) rfl (by kernel_rfl) (by kernel_rfl) (by kernel_rfl) (fun _ _ _ h => absurd rfl (h.1 _)) (Or.inr ⟨by rfl, rfl⟩) (by assumption) ?_
              simp only [Act.put, List.setIfInBounds_toArray, List.set_cons_zero, List.set_cons_succ]
              refine wpAnyH_take (i := 15) (oi := ⟨some 48, .binOp .sub 3 (.tmp 47) (.const (.int .i64 1)) 3, 3, "check.go:58", #[⟨14, .data⟩, ⟨12, .guard⟩], some (12, false)⟩) (v := undef) rfl (by kernel_rfl) (by kernel_rfl) (by kernel_rfl) (fun _ _ _ h => absurd rfl (h.1 _)) (Or.inr ⟨by rfl, rfl⟩) (by assumption) ?_
              simp only [Act.put, List.setIfInBounds_toArray, List.set_cons_zero, List.set_cons_succ]
              refine wpAnyH_take (i := 16) (oi := ⟨some 49, .indexAddr 147 (.tmp 46) (.tmp 48), 0, "check.go:58", #[⟨13, .data⟩, ⟨15, .data⟩, ⟨12, .guard⟩], some (12, false)⟩) (v := undef) rfl (by kernel_rfl) (by kernel_rfl) (by kernel_rfl) (fun _ _ _ h => absurd rfl (h.1 _)) (Or.inr ⟨by rfl, rfl⟩) (by assumption) ?_
              simp only [Act.put, List.setIfInBounds_toArray, List.set_cons_zero, List.set_cons_succ]
              refine wpAnyH_take (i := 17) (oi := ⟨some 50, .fieldAddr 152 (.tmp 49) 0, 0, "check.go:58", #[⟨16, .data⟩, ⟨12, .guard⟩], some (12, false)⟩) (v := undef) rfl (by kernel_rfl) (by kernel_rfl) (by kernel_rfl) (fun _ _ _ h => absurd rfl (h.1 _)) (Or.inr ⟨by rfl, rfl⟩) (by assumption) ?_
              simp only [Act.put, List.setIfInBounds_toArray, List.set_cons_zero, List.set_cons_succ]
              refine wpAnyH_take (i := 18) (oi := ⟨some 51, .fieldAddr 65 (.tmp 50) 0, 0, "check.go:58", #[⟨17, .data⟩, ⟨12, .guard⟩], some (12, false)⟩) (v := undef) rfl (by kernel_rfl) (by kernel_rfl) (by kernel_rfl) (fun _ _ _ h => absurd rfl (h.1 _)) (Or.inr ⟨by rfl, rfl⟩) (by assumption) ?_
              simp only [Act.put, List.setIfInBounds_toArray, List.set_cons_zero, List.set_cons_succ]
              refine wpAnyH_take (i := 19) (oi := ⟨some 52, .load 62 (.tmp 51), 62, "check.go:58", #[⟨18, .data⟩, ⟨12, .guard⟩], some (12, false)⟩) (v := undef) rfl (by kernel_rfl) (by kernel_rfl) (by kernel_rfl) (fun _ _ _ h => absurd rfl (h.1 _)) (Or.inr ⟨by rfl, rfl⟩) (by assumption) ?_
              simp only [Act.put, List.setIfInBounds_toArray, List.set_cons_zero, List.set_cons_succ]
              refine wpAnyH_take (i := 20) (oi := ⟨some 53, .fieldAddr 152 (.tmp 7) 0, 0, "check.go:58", #[⟨12, .guard⟩], some (12, false)⟩) (v := undef) rfl (by kernel_rfl) (by kernel_rfl) (by kernel_rfl) (fun _ _ _ h => absurd rfl (h.1 _)) (Or.inr ⟨by rfl, rfl⟩) (by assumption) ?_
              simp only [Act.put, List.setIfInBounds_toArray, List.set_cons_zero, List.set_cons_succ]
              refine wpAnyH_take (i := 21) (oi := ⟨some 54, .fieldAddr 65 (.tmp 53) 0, 0, "check.go:58", #[⟨20, .data⟩, ⟨12, .guard⟩], some (12, false)⟩) (v := undef) rfl (by kernel_rfl) (by kernel_rfl) (by kernel_rfl) (fun _ _ _ h => absurd rfl (h.1 _)) (Or.inr ⟨by rfl, rfl⟩) (by assumption) ?_
              simp only [Act.put, List.setIfInBounds_toArray, List.set_cons_zero, List.set_cons_succ]
              refine wpAnyH_take (i := 22) (oi := ⟨some 55, .load 62 (.tmp 54), 62, "check.go:58", #[⟨21, .data⟩, ⟨12, .guard⟩], some (12, false)⟩) (v := undef) rfl (by kernel_rfl) (by kernel_rfl) (by kernel_rfl) (fun _ _ _ h => absurd rfl (h.1 _)) (Or.inr ⟨by rfl, rfl⟩) (by assumption) ?_
              simp only [Act.put, List.setIfInBounds_toArray, List.set_cons_zero, List.set_cons_succ]
              refine wpAnyH_take (i := 23) (oi := ⟨some 56, .binOp .lss 62 (.tmp 52) (.tmp 55) 62, 4, "check.go:58", #[⟨19, .data⟩, ⟨22, .data⟩, ⟨12, .guard⟩], some (12, false)⟩) (v := undef) rfl (by kernel_rfl) (by kernel_rfl) (by kernel_rfl) (fun _ _ _ h => absurd rfl (h.1 _)) (Or.inr ⟨by rfl, rfl⟩) (by assumption) ?_
              simp only [Act.put, List.setIfInBounds_toArray, List.set_cons_zero, List.set_cons_succ]
              refine wpAnyH_take (i := 24) (oi := ⟨some 57, .pick (.tmp 45) (.const (.bool true)) (.tmp 56), 4, "check.go:58", #[⟨12, .data⟩, ⟨23, .data⟩], none⟩) (v := ?va24) rfl (by kernel_rfl) (by kernel_rfl) (by kernel_rfl) (fun _ _ _ h => absurd rfl (h.1 _)) (Or.inl ⟨by rfl, ?ha24⟩) (by assumption) ?ra24
              case ha24 => ((intro wz hSw; (try dsimp only at hSw); go_simp); try (with_reducible rfl))
              simp only [Act.put, List.setIfInBounds_toArray, List.set_cons_zero, List.set_cons_succ]
              refine wpAnyH_take (i := 25) (oi := ⟨some 8, .assign (.tmp 57), 4, "check.go:58", #[⟨24, .data⟩, ⟨12, .chain⟩, ⟨0, .phase⟩, ⟨1, .phase⟩, ⟨2, .phase⟩, ⟨3, .phase⟩, ⟨4, .phase⟩, ⟨5, .phase⟩, ⟨6, .phase⟩, ⟨7, .phase⟩, ⟨8, .phase⟩, ⟨9, .phase⟩, ⟨10, .phase⟩, ⟨11, .phase⟩, ⟨12, .phase⟩, ⟨13, .phase⟩, ⟨14, .phase⟩, ⟨15, .phase⟩, ⟨16, .phase⟩, ⟨17, .phase⟩, ⟨18, .phase⟩, ⟨19, .phase⟩, ⟨20, .phase⟩, ⟨21, .phase⟩, ⟨22, .phase⟩, ⟨23, .phase⟩, ⟨24, .phase⟩], none⟩) (v := ?va25) rfl (by kernel_rfl) (by kernel_rfl) (by kernel_rfl) (fun _ _ _ h => absurd rfl (h.1 _)) (Or.inl ⟨by rfl, ?ha25⟩) (by assumption) ?ra25
              case ha25 => ((intro wz hSw; (try dsimp only at hSw); go_simp); try (with_reducible rfl))
              simp only [Act.put, List.setIfInBounds_toArray, List.set_cons_zero, List.set_cons_succ]
              refine wpAnyH_done (by kernel_rfl) ?_ _
              go_wp2_with fail
              go_meet
              exact ⟨rfl, hbw⟩
            case true =>
              obtain ⟨lt, hlt⟩ : ∃ lt, decide (r.lk.hd < s.lk.hd) = lt := ⟨_, rfl⟩
              obtain rfl : ri = lt := by rw [HRR.out, hlt]; simp
              have HLT : Hid (decide (r.lk.hd < s.lk.hd) = ri) := hlt
              clear hlt
              refine wp_region_held_drew (S := fun w' => w'.cell? ⟨z + 1 + 1, 0, none⟩ = some (.slice (some ⟨b, off, none⟩) m cap) ∧ (w'.cell? ⟨b, off + j * 6, none⟩ = some (.int .u32 (r.lk.hd : Int)) ∧ w'.cell? ⟨b, off + j * 6 + 1, none⟩ = some (.int .u64 (r.lk.wt : Int)) ∧ w'.cell? ⟨b, off + j * 6 + 2, none⟩ = some (.int .u32 (r.lk.lf : Int)) ∧ w'.cell? ⟨b, off + j * 6 + 3, none⟩ = some (.int .u32 (r.lk.rt : Int)) ∧ w'.cell? ⟨b, off + j * 6 + 4, none⟩ = some (.int .u32 (r.rk : Int)) ∧ w'.cell? ⟨b, off + j * 6 + 5, none⟩ = some (.bool r.up)) ∧ (w'.cell? ⟨p, 0, none⟩ = some (.int .u32 (s.lk.hd : Int)) ∧ w'.cell? ⟨p, 1, none⟩ = some (.int .u64 (s.lk.wt : Int)) ∧ w'.cell? ⟨p, 2, none⟩ = some (.int .u32 (s.lk.lf : Int)) ∧ w'.cell? ⟨p, 3, none⟩ = some (.int .u32 (s.lk.rt : Int)) ∧ w'.cell? ⟨p, 4, none⟩ = some (.int .u32 (s.rk : Int)) ∧ w'.cell? ⟨p, 5, none⟩ = some (.bool s.up))) (by kernel_rfl) (HK2.out _ (Below.refl _ _).drew) (fun hHeld => ?_)
              refine wpAnyH_take (i := 0) (oi := ⟨some 33, .move (.tmp 6), 3, "check.go:58", #[], none⟩) (v := ?vb0) rfl (by kernel_rfl) (by kernel_rfl) (by kernel_rfl) (fun _ _ _ h => absurd rfl (h.1 _)) (Or.inl ⟨by rfl, ?hb0⟩) (by assumption) ?rb0
              case hb0 => ((intro wz hSw; (try dsimp only at hSw); go_simp); try (with_reducible rfl))
              simp only [Act.put, List.setIfInBounds_toArray, List.set_cons_zero, List.set_cons_succ]
              refine wpAnyH_take (i := 1) (oi := ⟨some 34, .binOp .eql 3 (.tmp 33) (.const (.int .i64 0)) 3, 4, "check.go:58", #[⟨0, .data⟩], none⟩) (v := ?vb1) rfl (by kernel_rfl) (by kernel_rfl) (by kernel_rfl) (fun _ _ _ h => absurd rfl (h.1 _)) (Or.inl ⟨by rfl, ?hb1⟩) (by assumption) ?rb1
              case hb1 => ((intro wz hSw; (try dsimp only at hSw); go_simp); try (with_reducible rfl))
              simp only [Act.put, List.setIfInBounds_toArray, List.set_cons_zero, List.set_cons_succ]
              refine wpAnyH_take (i := 2) (oi := ⟨some 35, .move (.tmp 34), 4, "check.go:58", #[⟨1, .data⟩], none⟩) (v := ?vb2) rfl (by kernel_rfl) (by kernel_rfl) (by kernel_rfl) (fun _ _ _ h => absurd rfl (h.1 _)) (Or.inl ⟨by rfl, ?hb2⟩) (by assumption) ?rb2
              case hb2 => ((intro wz hSw; (try dsimp only at hSw); go_simp); try (with_reducible rfl))
              simp only [Act.put, List.setIfInBounds_toArray, List.set_cons_zero, List.set_cons_succ]
              refine wpAnyH_take (i := 3) (oi := ⟨some 36, .load 147 (.tmp 3), 147, "check.go:58", #[⟨2, .guard⟩], some (2, false)⟩) (v := ?vb3) rfl (by kernel_rfl) (by kernel_rfl) (by kernel_rfl) (fun _ _ _ h => absurd rfl (h.1 _)) (Or.inl ⟨by rfl, ?hb3⟩) (by assumption) ?rb3
              case hb3 => ((intro wz hSw; (try dsimp only at hSw); go_simp); try (with_reducible rfl))
              simp only [Act.put, List.setIfInBounds_toArray, List.set_cons_zero, List.set_cons_succ]
              refine wpAnyH_take (i := 4) (oi := ⟨some 37, .move (.tmp 6), 3, "check.go:58", #[⟨2, .guard⟩], some (2, false)⟩) (v := ?vb4) rfl (by kernel_rfl) (by kernel_rfl) (by kernel_rfl) (fun _ _ _ h => absurd rfl (h.1 _)) (Or.inl ⟨by rfl, ?hb4⟩) (by assumption) ?rb4
              case hb4 => ((intro wz hSw; (try dsimp only at hSw); go_simp); try (with_reducible rfl))
              simp only [Act.put, List.setIfInBounds_toArray, List.set_cons_zero, List.set_cons_succ]
              refine wpAnyH_take (i := 5) (oi := ⟨some 38, .binOp .sub 3 (.tmp 37) (.const (.int .i64 1)) 3, 3, "check.go:58", #[⟨4, .data⟩, ⟨2, .guard⟩], some (2, false)⟩) (v := ?vb5) rfl (by kernel_rfl) (by kernel_rfl) (by kernel_rfl) (fun _ _ _ h => absurd rfl (h.1 _)) (Or.inl ⟨by rfl, ?hb5⟩) (by assumption) ?rb5
              case hb5 => ((intro wz hSw; (try dsimp only at hSw); go_simp); try (with_reducible rfl))
              simp only [Act.put, List.setIfInBounds_toArray, List.set_cons_zero, List.set_cons_succ]
              refine wpAnyH_take (i := 6) (oi := ⟨some 39, .indexAddr 147 (.tmp 36) (.tmp 38), 0, "check.go:58", #[⟨3, .data⟩, ⟨5, .data⟩, ⟨2, .guard⟩], some (2, false)⟩) (v := ?vb6) rfl (by kernel_rfl) (by kernel_rfl) (by kernel_rfl) (fun _ _ _ h => absurd rfl (h.1 _)) (Or.inl ⟨by rfl, ?hb6⟩) (by assumption) ?rb6
              case hb6 => ((intro wz hSw; (try dsimp only at hSw); go_simp); try (with_reducible rfl))
              simp only [Act.put, List.setIfInBounds_toArray, List.set_cons_zero, List.set_cons_succ]
              refine wpAnyH_take (i := 7) (oi := ⟨some 40, .load 152 (.tmp 39), 152, "check.go:58", #[⟨6, .data⟩, ⟨2, .guard⟩], some (2, false)⟩) (v := ?vb7) rfl (by kernel_rfl) (by kernel_rfl) (by kernel_rfl) (fun _ _ _ h => absurd rfl (h.1 _)) (Or.inl ⟨by rfl, ?hb7⟩) (by assumption) ?rb7
              case hb7 => ((intro wz hSw; (try dsimp only at hSw); go_simp); try (with_reducible rfl))
              simp only [Act.put, List.setIfInBounds_toArray, List.set_cons_zero, List.set_cons_succ]
              refine wpAnyH_take (i := 8) (oi := ⟨some 41, .load 152 (.tmp 7), 152, "check.go:58", #[⟨2, .guard⟩], some (2, false)⟩) (v := ?vb8) rfl (by kernel_rfl) (by kernel_rfl) (by kernel_rfl) (fun _ _ _ h => absurd rfl (h.1 _)) (Or.inl ⟨by rfl, ?hb8⟩) (by assumption) ?rb8
              case hb8 => ((intro wz hSw; (try dsimp only at hSw); go_simp); try (with_reducible rfl))
              simp only [Act.put, List.setIfInBounds_toArray, List.set_cons_zero, List.set_cons_succ]
              refine wpAnyH_ready (rs := [9]) (by kernel_rfl) (by simp) ?_
              refine AllReadyH.cons (o := ⟨some 42, .call { callee := .value (.func 86), args := #[.tmp 40, .tmp 41], argTypes := #[152, 152] }, 4, "check.go:58", #[⟨7, .data⟩, ⟨8, .data⟩, ⟨2, .chain⟩, ⟨2, .guard⟩], some (2, false)⟩) rfl (fun K hK => ?_) AllReadyH.nil
              go_simp
              go_at_call 86
              refine (HSR.out _ (Below.refl _ _).drew).mono ?_
              rintro e wa ⟨rfl, hbw⟩
              go_wp2_with fail
              refine hK.out _ _ (HK2.out _ hbw) (fun hHeld1 => ?_)
              clear hK K hHeld
              refine wpAnyH_take (i := 10) (oi := ⟨some 43, .unOp .not 4 (.tmp 42), 4, "check.go:58", #[⟨9, .data⟩, ⟨2, .guard⟩], some (2, false)⟩) (v := ?vb10) rfl (by kernel_rfl) (by kernel_rfl) (by kernel_rfl) (fun _ _ _ h => absurd rfl (h.1 _)) (Or.inl ⟨by rfl, ?hb10⟩) (by assumption) ?rb10
              case hb10 => ((intro wz hSw; (try dsimp only at hSw); go_simp); try (with_reducible rfl))
              simp only [Act.put, List.setIfInBounds_toArray, List.set_cons_zero, List.set_cons_succ]
              refine wpAnyH_take (i := 11) (oi := ⟨some 44, .pick (.tmp 35) (.const (.bool true)) (.tmp 43), 4, "check.go:58", #[⟨2, .data⟩, ⟨10, .data⟩], none⟩) (v := ?vb11) rfl (by kernel_rfl) (by kernel_rfl) (by kernel_rfl) (fun _ _ _ h => absurd rfl (h.1 _)) (Or.inl ⟨by rfl, ?hb11⟩) (by assumption) ?rb11
              case hb11 => ((intro wz hSw; (try dsimp only at hSw); go_simp); try (with_reducible rfl))
              simp only [Act.put, List.setIfInBounds_toArray, List.set_cons_zero, List.set_cons_succ]
              refine wpAnyH_take (i := 12) (oi := ⟨some 45, .move (.tmp 44), 4, "check.go:58", #[⟨11, .data⟩, ⟨9, .chain⟩], none⟩) (v := ?vb12) rfl (by kernel_rfl) (by kernel_rfl) (by kernel_rfl) (fun _ _ _ h => absurd rfl (h.1 _)) (Or.inl ⟨by rfl, ?hb12⟩) (by assumption) ?rb12
              case hb12 => ((intro wz hSw; (try dsimp only at hSw); go_simp); try (with_reducible rfl))
              simp only [Act.put, List.setIfInBounds_toArray, List.set_cons_zero, List.set_cons_succ]
              refine wpAnyH_take (i := 13) (oi := ⟨some 46, .load 147 (.tmp 3), 147, "check.go:58", #[⟨12, .guard⟩], some (12, false)⟩) (v := ?vb13) rfl (by kernel_rfl) (by kernel_rfl) (by kernel_rfl) (fun _ _ _ h => absurd rfl (h.1 _)) (Or.inl ⟨by rfl, ?hb13⟩) (by assumption) ?rb13
              case hb13 => ((intro wz hSw; (try dsimp only at hSw); go_simp); try (with_reducible rfl))
              simp only [Act.put, List.setIfInBounds_toArray, List.set_cons_zero, List.set_cons_succ]
              refine wpAnyH_take (i := 14) (oi := ⟨some 47, .move (.tmp 6), 3, "check.go:58", #[⟨12, .guard⟩], some (12, false)⟩) (v := ?vb14) rfl (by kernel_rfl) (by kernel_rfl) (by kernel_rfl) (fun _ _ _ h => absurd rfl (h.1 _)) (Or.inl ⟨by rfl, ?hb14⟩) (by assumption) ?rb14
              case hb14 => ((intro wz hSw; (try dsimp only at hSw); go_simp); try (with_reducible rfl))
              simp only [Act.put, List.setIfInBounds_toArray, List.set_cons_zero, List.set_cons_succ]
              refine wpAnyH_take (i := 15) (oi := ⟨some 48, .binOp .sub 3 (.tmp 47) (.const (.int .i64 1)) 3, 3, "check.go:58", #[⟨14, .data⟩, ⟨12, .guard⟩], some (12, false)⟩) (v := ?vb15) rfl (by kernel_rfl) (by kernel_rfl) (by kernel_rfl) (fun _ _ _ h => absurd rfl (h.1 _)) (Or.inl ⟨by rfl, ?hb15⟩) (by assumption) ?rb15
              case hb15 => ((intro wz hSw; (try dsimp only at hSw); go_simp); try (with_reducible rfl))
              simp only [Act.put, List.setIfInBounds_toArray, List.set_cons_zero, List.set_cons_succ]
              refine wpAnyH_take (i := 16) (oi := ⟨some 49, .indexAddr 147 (.tmp 46) (.tmp 48), 0, "check.go:58", #[⟨13, .data⟩, ⟨15, .data⟩, ⟨12, .guard⟩], some (12, false)⟩) (v := ?vb16) rfl (by kernel_rfl) (by kernel_rfl) (by kernel_rfl) (fun _ _ _ h => absurd rfl (h.1 _)) (Or.inl ⟨by rfl, ?hb16⟩) (by assumption) ?rb16
              case hb16 => ((intro wz hSw; (try dsimp only at hSw); go_simp); try (with_reducible rfl))
              simp only [Act.put, List.setIfInBounds_toArray, List.set_cons_zero, List.set_cons_succ]
              refine wpAnyH_take (i := 17) (oi := ⟨some 50, .fieldAddr 152 (.tmp 49) 0, 0, "check.go:58", #[⟨16, .data⟩, ⟨12, .guard⟩], some (12, false)⟩) (v := ?vb17) rfl (by kernel_rfl) (by kernel_rfl) (by kernel_rfl) (fun _ _ _ h => absurd rfl (h.1 _)) (Or.inl ⟨by rfl, ?hb17⟩) (by assumption) ?rb17
              case hb17 => ((intro wz hSw; (try dsimp only at hSw); go_simp); try (with_reducible rfl))
              simp only [Act.put, List.setIfInBounds_toArray, List.set_cons_zero, List.set_cons_succ]
              refine wpAnyH_take (i := 18) (oi := ⟨some 51, .fieldAddr 65 (.tmp 50) 0, 0, "check.go:58", #[⟨17, .data⟩, ⟨12, .guard⟩], some (12, false)⟩) (v := ?vb18) rfl (by kernel_rfl) (by kernel_rfl) (by kernel_rfl) (fun _ _ _ h => absurd rfl (h.1 _)) (Or.inl ⟨by rfl, ?hb18⟩) (by assumption) ?rb18
              case hb18 => ((intro wz hSw; (try dsimp only at hSw); go_simp); try (with_reducible rfl))
              simp only [Act.put, List.setIfInBounds_toArray, List.set_cons_zero, List.set_cons_succ]
              refine wpAnyH_take (i := 19) (oi := ⟨some 52, .load 62 (.tmp 51), 62, "check.go:58", #[⟨18, .data⟩, ⟨12, .guard⟩], some (12, false)⟩) (v := ?vb19) rfl (by kernel_rfl) (by kernel_rfl) (by kernel_rfl) (fun _ _ _ h => absurd rfl (h.1 _)) (Or.inl ⟨by rfl, ?hb19⟩) (by assumption) ?rb19
              case hb19 => ((intro wz hSw; (try dsimp only at hSw); go_simp); try (with_reducible rfl))
              simp only [Act.put, List.setIfInBounds_toArray, List.set_cons_zero, List.set_cons_succ]
              refine wpAnyH_take (i := 20) (oi := ⟨some 53, .fieldAddr 152 (.tmp 7) 0, 0, "check.go:58", #[⟨12, .guard⟩], some (12, false)⟩) (v := ?vb20) rfl (by kernel_rfl) (by kernel_rfl) (by kernel_rfl) (fun _ _ _ h => absurd rfl (h.1 _)) (Or.inl ⟨by rfl, ?hb20⟩) (by assumption) ?rb20
              case hb20 => ((intro wz hSw; (try dsimp only at hSw); go_simp); try (with_reducible rfl))
              simp only [Act.put, List.setIfInBounds_toArray, List.set_cons_zero, List.set_cons_succ]
              refine wpAnyH_take (i := 21) (oi := ⟨some 54, .fieldAddr 65 (.tmp 53) 0, 0, "check.go:58", #[⟨20, .data⟩, ⟨12, .guard⟩], some (12, false)⟩) (v := ?vb21) rfl (by kernel_rfl) (by kernel_rfl) (by kernel_rfl) (fun _ _ _ h => absurd rfl (h.1 _)) (Or.inl ⟨by rfl, ?hb21⟩) (by assumption) ?rb21
              case hb21 => ((intro wz hSw; (try dsimp only at hSw); go_simp); try (with_reducible rfl))
              simp only [Act.put, List.setIfInBounds_toArray, List.set_cons_zero, List.set_cons_succ]
              refine wpAnyH_take (i := 22) (oi := ⟨some 55, .load 62 (.tmp 54), 62, "check.go:58", #[⟨21, .data⟩, ⟨12, .guard⟩], some (12, false)⟩) (v := ?vb22) rfl (by kernel_rfl) (by kernel_rfl) (by kernel_rfl) (fun _ _ _ h => absurd rfl (h.1 _)) (Or.inl ⟨by rfl, ?hb22⟩) (by assumption) ?rb22
              case hb22 => ((intro wz hSw; (try dsimp only at hSw); go_simp); try (with_reducible rfl))
              simp only [Act.put, List.setIfInBounds_toArray, List.set_cons_zero, List.set_cons_succ]
              refine wpAnyH_take (i := 23) (oi := ⟨some 56, .binOp .lss 62 (.tmp 52) (.tmp 55) 62, 4, "check.go:58", #[⟨19, .data⟩, ⟨22, .data⟩, ⟨12, .guard⟩], some (12, false)⟩) (v := ?vb23) rfl (by kernel_rfl) (by kernel_rfl) (by kernel_rfl) (fun _ _ _ h => absurd rfl (h.1 _)) (Or.inl ⟨by rfl, ?hb23⟩) (by assumption) ?rb23
              case hb23 => ((intro wz hSw; (try dsimp only at hSw); go_simp); try (with_reducible rfl))
              simp only [Act.put, List.setIfInBounds_toArray, List.set_cons_zero, List.set_cons_succ]
              refine wpAnyH_take (i := 24) (oi := ⟨some 57, .pick (.tmp 45) (.const (.bool true)) (.tmp 56), 4, "check.go:58", #[⟨12, .data⟩, ⟨23, .data⟩], none⟩) (v := ?vb24) rfl (by kernel_rfl) (by kernel_rfl) (by kernel_rfl) (fun _ _ _ h => absurd rfl (h.1 _)) (Or.inl ⟨by rfl, ?hb24⟩) (by assumption) ?rb24
              case hb24 => ((intro wz hSw; (try dsimp only at hSw); go_simp); try (with_reducible rfl))
              simp only [Act.put, List.setIfInBounds_toArray, List.set_cons_zero, List.set_cons_succ]
              refine wpAnyH_take (i := 25) (oi := ⟨some 8, .assign (.tmp 57), 4, "check.go:58", #[⟨24, .data⟩, ⟨12, .chain⟩, ⟨0, .phase⟩, ⟨1, .phase⟩, ⟨2, .phase⟩, ⟨3, .phase⟩, ⟨4, .phase⟩, ⟨5, .phase⟩, ⟨6, .phase⟩, ⟨7, .phase⟩, ⟨8, .phase⟩, ⟨9, .phase⟩, ⟨10, .phase⟩, ⟨11, .phase⟩, ⟨12, .phase⟩, ⟨13, .phase⟩, ⟨14, .phase⟩, ⟨15, .phase⟩, ⟨16, .phase⟩, ⟨17, .phase⟩, ⟨18, .phase⟩, ⟨19, .phase⟩, ⟨20, .phase⟩, ⟨21, .phase⟩, ⟨22, .phase⟩, ⟨23, .phase⟩, ⟨24, .phase⟩], none⟩) (v := ?vb25) rfl (by kernel_rfl) (by kernel_rfl) (by kernel_rfl) (fun _ _ _ h => absurd rfl (h.1 _)) (Or.inl ⟨by rfl, ?hb25⟩) (by assumption) ?rb25
              case hb25 => ((intro wz hSw; (try dsimp only at hSw); go_simp); try (with_reducible rfl))
              simp only [Act.put, List.setIfInBounds_toArray, List.set_cons_zero, List.set_cons_succ]
              refine wpAnyH_done (by kernel_rfl) ?_ _
              go_wp2_with fail
              go_meet
              exact ⟨by rw [← HLT.out], hbw⟩
        case rest =>
          obtain ⟨rfl, hbz⟩ := hcut
          obtain ⟨⟨d0', d1', d2', d3', d4', d5'⟩, b2', b1'⟩ := HKP.out wc hbz
          have HE := HE2.out wc hbz
          have HE : Hid ((wc.heap[D]? = some (.deferred (some []))) ∧ Below z w wc) := ⟨HE.2.1, HE.2.2.1⟩
          have HBZ : Hid (Below W2.heap.size W2 wc) := hbz
          have HLE : Hid (lerr n al i = if ri = false ∨ s.lk.hd ≤ s.rk ∨ n ≤ s.lk.hd then 14 else making s al) := by show _ = _; rw [lerr, HRI.out, HS.out.1]
          have o1 := HS.out.2.1.1
          have w1 : IntKind.i64.wrap (s.lk.hd : Int) = (s.lk.hd : Int) := by rw [IntKind.wrap_i64]; omega
          clear d0 d1 d2 d3 d4 d5 b1 b2 hbz hss2
          by_cases hbad : ri = false ∨ s.lk.hd ≤ s.rk ∨ n ≤ s.lk.hd
          · have hne : lerr n al i ≠ 0 := by rw [HLE.out, if_pos hbad]; decide
            have HR : Hid (cl h.node.length (stds h) = (14, [((4 : Int), (i : Int))])) := by
              show _ = _
              rw [HCL.out, HF.out, ferr_hit h1 hne, HLE.out, if_pos hbad]
            clear hne
            cases ri
            case false =>
              clear hbad
              go_wp2_with (go_at_call 84; refine (at_some 4 (i : Int) 61 (.int .i64 14) _).mono ?_; rintro e w' ⟨rfl, rfl⟩)
              obtain ⟨q1, q2, q3⟩ := end_at (k := (i : Int)) (c := 14) hzD HE.out.1 HE.out.2 (by decide)
              refine ⟨fun ch e => (by cases e), by simp, .inl ⟨_, _, rfl, run_takeDeferred q1, ?_⟩⟩
              exact ⟨_, results_tmp rfl _ _ _, _, rfl, by rw [HR.out]; exact q2, by rw [HZ.out]; exact q3⟩
            case true =>
              by_cases hle : s.lk.hd ≤ s.rk
              · have x1 : decide ((s.lk.hd : Int) ≤ (s.rk : Int)) = true := by simp; omega
                have x3 : decide (s.lk.hd ≤ s.rk) = true := by simp; omega
                clear hbad hle
                go_wp2_with (go_at_call 84; refine (at_some 4 (i : Int) 61 (.int .i64 14) _).mono ?_; rintro e w' ⟨rfl, rfl⟩)
                obtain ⟨q1, q2, q3⟩ := end_at (k := (i : Int)) (c := 14) hzD HE.out.1 HE.out.2 (by decide)
                refine ⟨fun ch e => (by cases e), by simp, .inl ⟨_, _, rfl, run_takeDeferred q1, ?_⟩⟩
                exact ⟨_, results_tmp rfl _ _ _, _, rfl, by rw [HR.out]; exact q2, by rw [HZ.out]; exact q3⟩
              · have x1 : decide ((s.lk.hd : Int) ≤ (s.rk : Int)) = false := by simp; omega
                have x3 : decide (s.lk.hd ≤ s.rk) = false := by simp; omega
                have x4 : decide (n ≤ s.lk.hd) = true := by
                  rcases hbad with h | h | h
                  · cases h
                  · exact absurd h hle
                  · simp; omega
                have x2 : decide ((n : Int) ≤ (s.lk.hd : Int)) = true := by
                  rcases hbad with h | h | h
                  · cases h
                  · exact absurd h hle
                  · simp; omega
                clear hbad hle
                go_wp2_with (go_at_call 84; refine (at_some 4 (i : Int) 61 (.int .i64 14) _).mono ?_; rintro e w' ⟨rfl, rfl⟩)
                obtain ⟨q1, q2, q3⟩ := end_at (k := (i : Int)) (c := 14) hzD HE.out.1 HE.out.2 (by decide)
                refine ⟨fun ch e => (by cases e), by simp, .inl ⟨_, _, rfl, run_takeDeferred q1, ?_⟩⟩
                exact ⟨_, results_tmp rfl _ _ _, _, rfl, by rw [HR.out]; exact q2, by rw [HZ.out]; exact q3⟩
          · obtain rfl : ri = true := by
              cases ri
              · exact absurd (Or.inl rfl) hbad
              · rfl
            have x1 : decide ((s.lk.hd : Int) ≤ (s.rk : Int)) = false := by
              have : ¬ s.lk.hd ≤ s.rk := fun h => hbad (Or.inr (Or.inl h))
              simp; omega
            have x2 : decide ((n : Int) ≤ (s.lk.hd : Int)) = false := by
              have : ¬ n ≤ s.lk.hd := fun h => hbad (Or.inr (Or.inr h))
              simp; omega
            have x3 : decide (s.lk.hd ≤ s.rk) = false := decide_eq_false fun h => hbad (Or.inr (Or.inl h))
            have x4 : decide (n ≤ s.lk.hd) = false := decide_eq_false fun h => hbad (Or.inr (Or.inr h))
            rw [if_neg hbad] at HLE
            clear hbad
            obtain ⟨mk, hmk⟩ : ∃ mk, making s al = mk := ⟨_, rfl⟩
            rw [hmk] at HLE
            have HMC : Hid (Calls Tryz.prog 87 #[.agg #[.int .u32 (s.lk.hd : Int), .int .u64 (s.lk.wt : Int), .int .u32 (s.lk.lf : Int), .int .u32 (s.lk.rt : Int), .int .u32 (s.rk : Int), .bool s.up], .slice (some ⟨b, off, none⟩) m cap] wc fun e w' => e = .returned (numV mk) ∧ Below wc.heap.size wc w') := by rw [← hmk]; exact making_calls s _ m cap al wc HS.out.2 (HE2.out wc HBZ.out).1 HAL.out.1
            clear hmk
            by_cases hmk0 : mk = 0
            · subst hmk0
              have HR : Hid (ferr 4 (lerr n al) 0 m = ferr 4 (lerr n al) (i + 1) (m - (i + 1))) := by
                show _ = _
                rw [HF.out, ferr_step h1 HLE.out]
              have HMC2 : Hid (Calls Tryz.prog 87 #[.agg #[.int .u32 (s.lk.hd : Int), .int .u64 (s.lk.wt : Int), .int .u32 (s.lk.lf : Int), .int .u32 (s.lk.rt : Int), .int .u32 (s.rk : Int), .bool s.up], .slice (some ⟨b, off, none⟩) m cap] wc fun e w' => e = .returned .nilIface ∧ Below Wd.heap.size Wd w') := HMC.out.mono fun e w' ⟨h1, h2⟩ => ⟨h1, (HE2.out wc HBZ.out).2.2.2.trans (h2.mono (HE2.out wc HBZ.out).2.2.2.size)⟩
              clear HMC
              go_wp2_with (go_at_call 87; refine HMC2.out.mono ?_; rintro e w' ⟨rfl, hbq⟩; have HBQ : Hid (Below Wd.heap.size Wd w') := hbq; clear hbq)
              go_roundw
              case rel => exact ⟨i + 1, by omega, by simp, HBQ, HR⟩
              case measure => simp [intOf]; omega
            · have HR : Hid (cl h.node.length (stds h) = (mk, [((4 : Int), (i : Int))])) := by
                show _ = _
                rw [HCL.out, HF.out, ferr_hit h1 (by rw [HLE.out]; exact hmk0), HLE.out]
              have HMC2 : Hid (Calls Tryz.prog 87 #[.agg #[.int .u32 (s.lk.hd : Int), .int .u64 (s.lk.wt : Int), .int .u32 (s.lk.lf : Int), .int .u32 (s.lk.rt : Int), .int .u32 (s.rk : Int), .bool s.up], .slice (some ⟨b, off, none⟩) m cap] wc fun e w' => e = .returned (.iface 61 (.int .i64 mk)) ∧ w'.heap[D]? = some (.deferred (some [])) ∧ Below z w w') := HMC.out.mono fun e w' ⟨h1, h2⟩ => ⟨by rw [h1, numV_num hmk0], (h2.block _ (some_lt HE.out.1)).trans HE.out.1, HE.out.2.trans (h2.mono (by have := (HE2.out wc HBZ.out).2.2.1.size; have := HZ.out; omega))⟩
              clear HMC
              go_wp2_with (first | (go_at_call 87; refine HMC2.out.mono ?_; rintro e w9 ⟨rfl, hD9, hB9⟩; have HE9 : Hid ((w9.heap[D]? = some (.deferred (some []))) ∧ Below z w w9) := ⟨hD9, hB9⟩; clear hD9 hB9) | (go_at_call 84; refine (at_some 4 (i : Int) 61 (.int .i64 mk) _).mono ?_; rintro e w' ⟨rfl, rfl⟩))
              obtain ⟨q1, q2, q3⟩ := end_at (k := (i : Int)) (c := mk) hzD HE9.out.1 HE9.out.2 hmk0
              refine ⟨fun ch e => (by cases e), by simp, .inl ⟨_, _, rfl, run_takeDeferred q1, ?_⟩⟩
              exact ⟨_, results_tmp rfl _ _ _, _, rfl, by rw [HR.out]; exact q2, by rw [HZ.out]; exact q3⟩
      · subst h1
        have HR : Hid (cl h.node.length (stds h) = (0, [])) := by
          show _ = _
          rw [HCL.out, HF.out, ferr_end]
        obtain ⟨_, _, _, hDk, hbl, _, _⟩ := HKA.out wr HB.out
        have HE : Hid ((wr.heap[D]? = some (.deferred (some []))) ∧ Below z w wr) := ⟨hDk, hbl⟩
        clear hDk hbl
        go_wp2
        refine ⟨fun ch e => (by cases e), by simp, .inl ⟨_, _, rfl, run_takeDeferred HE.out.1, ?_⟩⟩
        exact ⟨_, results_tmp rfl _ _ _, _, rfl, by rw [HR.out]; exact told_no _, by rw [HZ.out]; exact HE.out.2.trans ((Turn.refl TnC z wr).putObj hzD HE.out.1 rfl _).below⟩
end Go.Proofs.YtodilocmfdeehaaGreatDoor.Hi
