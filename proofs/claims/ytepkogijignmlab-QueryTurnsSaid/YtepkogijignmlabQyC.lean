/- query.meet, Distance and Meet. -/
import Derived.Test.YtepkogijignmlabQyA
import Derived.Test.YtepkogijignmlabQyB
namespace Go.Proofs.Ytepkogijignmlab.Qy
open Go.RowKit Go.Extern Go.Shelf Hi Cb

attribute [local go_sem] Oper.semAt_some

theorem low_relaxs' {d : Int} {r : Nat} (hd : 0 ≤ d ∧ d ≤ (r : Int) * 140737488355328) : ∀ (row : List Lk) (vs : List (Option Int)), (∀ l ∈ row, r < l.hd ∧ l.wt ≤ 140737488355328) → Low vs → Low (relaxs d row vs)
  | [], vs, _, h => h
  | l :: t, vs, hr, h => by
    obtain ⟨h1, h2⟩ := hr l (List.mem_cons_self ..)
    exact low_relaxs' hd t (relax vs l.hd (d + l.wt)) (fun x hx => hr x (List.mem_cons_of_mem _ hx)) (low_relax h (by omega))
theorem run_low (N : Nat) (row : Nat → List Lk) (hrow : ∀ r, r < N → ∀ l ∈ row r, r < l.hd ∧ l.wt ≤ 140737488355328) : ∀ (m r : Nat) (vs : List (Option Int)) (out : List (Nat × Int)), r + m ≤ N → Low vs → (∀ x ∈ out, 0 ≤ x.2 ∧ x.2 ≤ (x.1 : Int) * 140737488355328) → ∀ x ∈ (run row m r vs out).2, 0 ≤ x.2 ∧ x.2 ≤ (x.1 : Int) * 140737488355328
  | 0, r, vs, out, _, _, ho, x, hx => ho x hx
  | m + 1, r, vs, out, hm, hv, ho, x, hx => by
    rw [run] at hx
    split at hx
    · rename_i d hd
      refine run_low N row hrow m (r + 1) _ _ (by omega) (low_relaxs' (hv _ _ hd) _ _ (hrow r (by omega)) hv) (fun y hy => ?_) x hx
      rcases List.mem_append.1 hy with h | h
      · exact ho y h
      · simp at h
        subst h
        exact hv _ _ hd
    · exact run_low N row hrow m (r + 1) _ _ (by omega) hv ho x hx
theorem climbed_bounds {n s : Nat} (hn : n ≤ 65536) (a b : Nat → List Lk) (ha : ∀ r, r < n → ∀ l ∈ a r, r < l.hd ∧ l.hd < n ∧ l.wt ≤ 140737488355328) : ∀ x ∈ climbed n s a b, 0 ≤ x.2.1 ∧ x.2.1 < 9223372036854775808 := by
  intro x hx
  unfold climbed at hx
  simp only at hx
  obtain ⟨y, hy, rfl⟩ := List.mem_map.1 hx
  have g := run_low n a (fun r hr l hl => ⟨(ha r hr l hl).1, (ha r hr l hl).2.2⟩) n 0 (Cb.start n s) [] (by omega) (low_start n s) (fun x hx => by simp at hx) y hy
  have g2 := run_out a n 0 (Cb.start n s) [] y hy
  have g3 : y.1 < n := by
    rcases g2 with g2 | g2
    · simp at g2
    · omega
  simp only
  omega
theorem climbed_len (n s : Nat) (a b : Nat → List Lk) : (climbed n s a b).length ≤ n := by
  unfold climbed
  rw [List.length_map]
  have := run_len a n 0 (Cb.start n s) []
  simpa using this
theorem up_bounds {h : Hr} (hc : chk h = (0, [])) (r : Nat) : (∀ x ∈ upL h r, 0 ≤ x.2.1 ∧ x.2.1 < 9223372036854775808) ∧ (upL h r).length ≤ 65536 := by
  have k1 := (chk_ok hc).1
  exact ⟨climbed_bounds k1 _ _ (fun r hr l hl => row_form hc hr (Or.inl hl)), Nat.le_trans (climbed_len _ _ _ _) k1⟩
theorem dn_bounds {h : Hr} (hc : chk h = (0, [])) (r : Nat) : (∀ x ∈ dnL h r, 0 ≤ x.2.1 ∧ x.2.1 < 9223372036854775808) ∧ (dnL h r).length ≤ 65536 := by
  have k1 := (chk_ok hc).1
  exact ⟨climbed_bounds k1 _ _ (fun r hr l hl => row_form hc hr (Or.inr hl)), Nat.le_trans (climbed_len _ _ _ _) k1⟩
/-- what meet answers. -/
def MR (h : Hr) (s t : Int) (r : Nat) (d : Int) (u : Value) : Prop :=
  (Nodes h s t ∧ meetL h s.toNat t.toNat = some (r, d) ∧ u = .nilIface) ∨ ((¬ Nodes h s t ∨ meetL h s.toNat t.toNat = none) ∧ r = 0 ∧ d = 0 ∧ ∃ T x, u = .iface T x)
theorem meet_res {W : World} {z : Nat} {x0 x1 u : Value} {tmps : Array Value} (h1 : W.heap[z]? = some (.cells #[x0, x1] 52)) (t6 : tmps[6]?.getD undef = .pointer (some ⟨z, 0, none⟩)) (t7 : tmps[7]?.getD undef = u) :
    (results Try.f19 tmps).run Try.prog W = .ok (.tuple #[.agg #[x0, x1], u]) W := by
  have c0 : W.cell? ⟨z, 0, none⟩ = some x0 := by simp [World.cell?, h1]
  have c1 : W.cell? ⟨z, 1, none⟩ = some x1 := by simp [World.cell?, h1]
  simp [results, Try.results19, go_sem, t6, t7, c0, c1]
set_option maxRecDepth 100000 in
set_option maxHeartbeats 4000000 in
theorem meet_calls (v : HV) (h : Hr) (s t : Int) (w : World) (hH : HasH w v h) (hb1 : h.up.length ≤ 1152921504606846976) (hb2 : h.dn.length ≤ 1152921504606846976) (hb3 : h.node.length ≤ 1152921504606846976) :
    Calls Try.prog 19 #[hvl v h, .int .i64 s, .int .i64 t] w fun e w' => ∃ (r : Nat) (d : Int) (u : Value), MR h s t r d u ∧ e = .returned (.tuple #[.agg #[.int .i64 (r : Int), .int .u64 d], u]) ∧ Below w.heap.size w w' := by
  obtain ⟨z, hz⟩ : ∃ z, w.heap.size = z := ⟨_, rfl⟩
  obtain ⟨W0, hW0⟩ : ∃ W0, (w.alloc (.cells (cellsH v h) 25)).alloc (.cells #[.int .i64 0, .int .u64 0] 52) = W0 := ⟨_, rfl⟩
  have hB0 : Below w.heap.size w W0 := by rw [← hW0]; exact ((Below.refl _ w).alloc (Nat.le_refl _) _).alloc (by simp) _
  have h0 : W0.heap[z]? = some (.cells (cellsH v h) 25) := by
    rw [← hW0, ← hz]; exact (Below.heap_alloc _ _ _ (by simp)).trans (heap_newW _ _)
  have h1 : W0.heap[z + 1]? = some (.cells #[.int .i64 0, .int .u64 0] 52) := by
    have g := heap_newW (w.alloc (.cells (cellsH v h) 25)) (.cells #[.int .i64 0, .int .u64 0] 52)
    rw [World.size_alloc, hW0, hz] at g
    exact g
  have HQ : Hid (∀ wx, Below W0.heap.size W0 wx → (wx.cell? ⟨z, 0, none⟩ = some (.slice v.no h.node.length v.nc) ∧ wx.cell? ⟨z, 1, none⟩ = some (.slice v.uo h.upF.length v.uc) ∧ wx.cell? ⟨z, 2, none⟩ = some (.slice v.ul h.up.length v.ulc) ∧ wx.cell? ⟨z, 3, none⟩ = some (.slice v.wo h.dnF.length v.wc) ∧ wx.cell? ⟨z, 4, none⟩ = some (.slice v.dl h.dn.length v.dlc)) ∧ wx.heap[z + 1]? = some (.cells #[.int .i64 0, .int .u64 0] 52) ∧ HasH wx v h ∧ Below w.heap.size w wx) := fun wx hx => by
    have g := hB0.trans (hx.mono hB0.size)
    exact ⟨five_cells ((hx.block _ (some_lt h0)).trans h0), (hx.block _ (some_lt h1)).trans h1, hH.keep g, g⟩
  have HEND : Hid (∀ wx, Below W0.heap.size W0 wx → ∀ x y : Value, ((wx.setCell ⟨z + 1, 0, none⟩ x).setCell ⟨z + 1, 1, none⟩ y).heap[z + 1]? = some (.cells #[x, y] 52) ∧ Below w.heap.size w ((wx.setCell ⟨z + 1, 0, none⟩ x).setCell ⟨z + 1, 1, none⟩ y)) := fun wx hx x y => ⟨set_two (HQ.out wx hx).2.1 x y, ((HQ.out wx hx).2.2.2.setCell (p := ⟨z + 1, 0, none⟩) (by show w.heap.size ≤ z + 1; omega) _).setCell (p := ⟨z + 1, 1, none⟩) (by show w.heap.size ≤ z + 1; omega) _⟩
  have HW0 : Hid ((w.alloc (.cells (cellsH v h) 25)).alloc (.cells #[.int .i64 0, .int .u64 0] 52) = W0) := hW0
  have HB0 : Hid (Below W0.heap.size W0 W0) := Below.refl _ _
  obtain ⟨⟨c0, c1, c2, c3, c4⟩, _⟩ := HQ.out W0 HB0.out
  clear hW0 h0 h1 hB0 hH
  unfold cellsH at HW0
  by_cases hn : Nodes h s t
  · obtain ⟨hc, hs, ht⟩ := hn
    obtain ⟨s', rfl⟩ : ∃ s' : Nat, s = (s' : Int) := ⟨s.toNat, by omega⟩
    obtain ⟨t', rfl⟩ : ∃ t' : Nat, t = (t' : Int) := ⟨t.toNat, by omega⟩
    have hs' : s' < h.node.length := by omega
    have ht' : t' < h.node.length := by omega
    have HND : Hid (Nodes h (s' : Int) (t' : Int)) := ⟨hc, hs, ht⟩
    have r1 := (rank_node hc hs').1
    have r2 := (rank_node hc ht').1
    obtain ⟨X, hX⟩ : ∃ X, upL h (rankOf h s') = X := ⟨_, rfl⟩
    obtain ⟨Y, hY⟩ : ∃ Y, dnL h (rankOf h t') = Y := ⟨_, rfl⟩
    have bX := up_bounds hc (rankOf h s')
    have bY := dn_bounds hc (rankOf h t')
    rw [hX] at bX
    rw [hY] at bY
    have HML : Hid (meetL h s' t' = near X Y) := by show _ = _; unfold meetL; rw [hX, hY]
    have K1 : Hid (∀ wx, Below W0.heap.size W0 wx → Calls Try.prog 25 #[hvl v h, .int .i64 (s' : Int), .int .i64 (t' : Int)] wx fun e w' => e = .returned (.tuple #[.int .i64 (rankOf h s' : Int), .int .i64 (rankOf h t' : Int), .nilIface]) ∧ Below wx.heap.size wx w') := fun wx hx => ends_ok v h s' t' wx (HQ.out wx hx).2.2.1 hc hs' ht'
    have K2 : Hid (∀ wx, Below W0.heap.size W0 wx → Calls Try.prog 26 #[hvl v h, .int .i64 (rankOf h s' : Int)] wx fun e w' => ∃ mo mc, e = .returned (.tuple #[.slice mo X.length mc, .nilIface]) ∧ w'.ownsRow wx.heap.size 91 3 (.slice mo X.length mc) X.length (snv X) ∧ Below wx.heap.size wx w') := fun wx hx => (up_ok v h _ wx (HQ.out wx hx).2.2.1 hc r1).mono (by rintro e w' ⟨mo, mc, X', e1, rfl, a, b⟩; rw [hX] at e1; subst e1; exact ⟨mo, mc, rfl, a, b⟩)
    have K3 : Hid (∀ wx, Below W0.heap.size W0 wx → Calls Try.prog 27 #[hvl v h, .int .i64 (rankOf h t' : Int)] wx fun e w' => ∃ mo mc, e = .returned (.tuple #[.slice mo Y.length mc, .nilIface]) ∧ w'.ownsRow wx.heap.size 91 3 (.slice mo Y.length mc) Y.length (snv Y) ∧ Below wx.heap.size wx w') := fun wx hx => (down_ok v h _ wx (HQ.out wx hx).2.2.1 hc r2).mono (by rintro e w' ⟨mo, mc, X', e1, rfl, a, b⟩; rw [hY] at e1; subst e1; exact ⟨mo, mc, rfl, a, b⟩)
    have HBD : Hid (((∀ x ∈ X, 0 ≤ x.2.1 ∧ x.2.1 < 9223372036854775808) ∧ X.length ≤ 65536) ∧ (∀ x ∈ Y, 0 ≤ x.2.1 ∧ x.2.1 < 9223372036854775808) ∧ Y.length ≤ 65536) := ⟨bX, bY⟩
    generalize rankOf h s' = rs at *
    generalize rankOf h t' = rt at *
    clear hc hs ht hs' ht' r1 r2 hX hY bX bY
    unfold hvl at K1 K2 K3 ⊢
    go_enter Try.func19, Try.ntmps19
    go_upto_region 1 with fail
    rw [HW0.out]
    go_wp2_with fail
    refine (K1.out W0 HB0.out).mono ?_
    rintro e w1 ⟨rfl, hbb1⟩
    have HB1 : Hid (Below W0.heap.size W0 w1) := btrH HB0.out hbb1
    clear hbb1 c0 c1 c2 c3 c4
    obtain ⟨⟨c0, c1, c2, c3, c4⟩, _⟩ := HQ.out w1 HB1.out
    go_wp2_with fail
    refine (K2.out w1 HB1.out).mono ?_
    rintro e w2 ⟨m2, c22, rfl, ho2, hbb2⟩
    have HB2 : Hid (Below W0.heap.size W0 w2) := btrH HB1.out hbb2
    have O2 : Hid (w2.ownsRow w1.heap.size 91 3 (.slice m2 X.length c22) X.length (snv X)) := ho2
    clear hbb2 ho2 c0 c1 c2 c3 c4
    obtain ⟨⟨c0, c1, c2, c3, c4⟩, _⟩ := HQ.out w2 HB2.out
    go_wp2_with fail
    refine (K3.out w2 HB2.out).mono ?_
    rintro e w3 ⟨m3, c33, rfl, ho3, hbb3⟩
    have HB3 : Hid (Below W0.heap.size W0 w3) := btrH HB2.out hbb3
    have HSX : Hid (HasSn w3 (.slice m2 X.length c22) X ∧ HasSn w3 (.slice m3 Y.length c33) Y) := ⟨(sn_of_own O2.out).keep hbb3, sn_of_own ho3⟩
    clear hbb3 ho3 c0 c1 c2 c3 c4
    go_wp2_with fail
    refine (nearest_calls m2 c22 m3 c33 X Y w3 HSX.out.1 HSX.out.2 HBD.out.1.1 HBD.out.2.1 HBD.out.1.2 HBD.out.2.2).mono ?_
    rintro e w4 ⟨hbb4, hcase⟩
    have HB4 : Hid (Below W0.heap.size W0 w4) := btrH HB3.out hbb4
    obtain ⟨⟨d0, d1⟩, f0, f1⟩ := two_cells (HQ.out w4 HB4.out).2.1
    rcases hcase with ⟨hnr, T, xx, rfl⟩ | ⟨r, d, hnr, rfl⟩
    · have HNR : Hid (meetL h s' t' = none) := by show _ = _; rw [HML.out]; exact hnr
      clear hbb4 hnr
      go_wp2
      exact bodyPost_ret (meet_res (HEND.out w4 HB4.out _ _).1 rfl rfl) rfl ⟨0, 0, .iface T xx, Or.inr ⟨Or.inr HNR.out, rfl, rfl, T, xx, rfl⟩, rfl, (HEND.out w4 HB4.out _ _).2⟩
    · have HNR : Hid (meetL h s' t' = some (r, d)) := by show _ = _; rw [HML.out]; exact hnr
      clear hbb4 hnr
      go_wp2
      exact bodyPost_ret (meet_res (HEND.out w4 HB4.out _ _).1 rfl rfl) rfl ⟨r, d, .nilIface, Or.inl ⟨HND.out, HNR.out, rfl⟩, rfl, (HEND.out w4 HB4.out _ _).2⟩
  · have K1 : Hid (∀ wx, Below W0.heap.size W0 wx → Calls Try.prog 25 #[hvl v h, .int .i64 s, .int .i64 t] wx fun e w' => ∃ T x, e = .returned (.tuple #[.int .i64 0, .int .i64 0, .iface T x]) ∧ Below wx.heap.size wx w') := fun wx hx => ends_bad v h s t wx (HQ.out wx hx).2.2.1 hb1 hb2 hb3 hn
    have HND : Hid (¬ Nodes h s t) := hn
    clear hn
    unfold hvl at K1 ⊢
    go_enter Try.func19, Try.ntmps19
    go_upto_region 1 with fail
    rw [HW0.out]
    go_wp2_with fail
    refine (K1.out W0 HB0.out).mono ?_
    rintro e w1 ⟨T, xx, rfl, hbb1⟩
    have HB1 : Hid (Below W0.heap.size W0 w1) := btrH HB0.out hbb1
    obtain ⟨⟨d0, d1⟩, f0, f1⟩ := two_cells (HQ.out w1 HB1.out).2.1
    clear hbb1 c0 c1 c2 c3 c4
    go_wp2
    exact bodyPost_ret (meet_res (HEND.out w1 HB1.out _ _).1 rfl rfl) rfl ⟨0, 0, .iface T xx, Or.inr ⟨Or.inl HND.out, rfl, rfl, T, xx, rfl⟩, rfl, (HEND.out w1 HB1.out _ _).2⟩
end Go.Proofs.Ytepkogijignmlab.Qy
