/- QueryTurns holds: for every hierarchy and all nodes the law answers true and its arguments read as they did. No condition beside the row's own. (genqe.py) -/
import Derived.Test.YtepkogijignmlabQyD
import Derived.Test.YtepkogijignmlabHrW
import Derived.SizedLaws
namespace Go.Proofs.Ytepkogijignmlab.Qy
open Go.ChangeShapes Go.WideShapes Go.ChangeAt Go.RowKit Go.Deep Go.Extern Hi Cb

attribute [local go_sem] Oper.semAt_some

theorem nodes_turn {h : Hr} {s t : Int} : Nodes h s t → Nodes (turnH h) t s := fun g => ⟨turn_chk g.1, g.2.2, g.2.1⟩
theorem nodes_back {h : Hr} (hc : chk h = (0, [])) {s t : Int} : Nodes (turnH h) t s → Nodes h s t := fun g => ⟨hc, g.2.2, g.2.1⟩
theorem mr_turn {h : Hr} (hc : chk h = (0, [])) {s t : Int} {r : Nat} {d : Int} {u : Value} (g : MR (turnH h) t s r d u) : MR h s t r d u := by
  unfold MR at g ⊢
  rw [meet_turn] at g
  rcases g with ⟨a, b, c⟩ | ⟨a, b⟩
  · exact Or.inl ⟨nodes_back hc a, b, c⟩
  · refine Or.inr ⟨?_, b⟩
    rcases a with a | a
    · exact Or.inl fun g => a (nodes_turn g)
    · exact Or.inr a
theorem mr_is {h : Hr} {s t : Int} (hn : Nodes h s t) {r0 : Nat} {d0 : Int} (hm : meetL h s.toNat t.toNat = some (r0, d0)) {r : Nat} {d : Int} {u : Value} (g : MR h s t r d u) : r = r0 ∧ d = d0 ∧ u = .nilIface := by
  rcases g with ⟨_, e, hu⟩ | ⟨g, _⟩
  · rw [hm] at e
    have := Option.some.inj e
    simp only [Prod.mk.injEq] at this
    exact ⟨this.1.symm, this.2.symm, hu⟩
  · rcases g with g | g
    · exact absurd hn g
    · rw [hm] at g
      cases g
theorem mr_no {h : Hr} {s t : Int} (hn : ¬ (Nodes h s t ∧ meetL h s.toNat t.toNat ≠ none)) {r : Nat} {d : Int} {u : Value} (g : MR h s t r d u) : r = 0 ∧ d = 0 ∧ ∃ T x, u = .iface T x := by
  rcases g with ⟨a, e, _⟩ | ⟨_, g⟩
  · exact absurd ⟨a, by rw [e]; simp⟩ hn
  · exact g
theorem mr_self {h : Hr} (hc : chk h = (0, [])) {j : Nat} (hj : j < h.node.length) {s : Int} (hs : (nth h.node j : Int) = s) {r : Nat} {d : Int} {u : Value} (g : MR h s s r d u) : r = j ∧ d = 0 ∧ u = .nilIface := by
  obtain ⟨k1, k2, k3, k4, k5, k6, k7, k8⟩ := chk_ok hc
  have hlt := (cn_ok k7 hj).1
  subst hs
  have e := meet_self hc hlt
  rw [rank_of hc hj] at e
  exact mr_yes hc hlt hlt e g

set_option maxRecDepth 100000 in
set_option maxHeartbeats 8000000 in
theorem turns21 (v : HV) (h : Hr) (s t : Int) (w : World) (hH : HasH w v h) (hb1 : h.up.length ≤ 1152921504606846976) (hb2 : h.dn.length ≤ 1152921504606846976) (hb3 : h.node.length ≤ 1152921504606846976) :
    Calls Try.prog 3 #[hvl v h, .int .i64 s, .int .i64 t] w fun e w' => e = .returned (.bool true) ∧ Below w.heap.size w w' := by
  obtain ⟨z, hz⟩ : ∃ z, w.heap.size = z := ⟨_, rfl⟩
  obtain ⟨W0, hW0⟩ : ∃ W0, w.alloc (.cells (cellsH v h) 25) = W0 := ⟨_, rfl⟩
  have h0 : ∀ wx, Below W0.heap.size W0 wx → wx.heap[z]? = some (.cells (cellsH v h) 25) ∧ HasH wx v h ∧ Below w.heap.size w wx := fun wx hx => by
    have h1 : W0.heap[z]? = some (.cells (cellsH v h) 25) := by rw [← hW0, ← hz]; exact heap_newW _ _
    have h2 : Below w.heap.size w W0 := by rw [← hW0]; exact (Below.refl _ _).alloc (Nat.le_refl _) _
    have h3 := h2.trans (hx.mono h2.size)
    exact ⟨(hx.block _ (some_lt h1)).trans h1, hH.keep h3, h3⟩
  have HW0 : Hid (w.alloc (.cells (cellsH v h) 25) = W0) := hW0
  have H0 : Hid (type_of% h0) := h0
  have HGR : Hid (∀ wx, Below W0.heap.size W0 wx → Calls Try.prog 5 #[hvl v h] wx fun e w' => e = .returned (.bool (greatB h)) ∧ Below wx.heap.size wx w') := fun wx _ => great21_calls v h wx hb1 hb2
  have HF5 : Hid (∀ wx, Below W0.heap.size W0 wx → wx.cell? ⟨z, 0, none⟩ = some (.slice v.no h.node.length v.nc) ∧ wx.cell? ⟨z, 1, none⟩ = some (.slice v.uo h.upF.length v.uc) ∧ wx.cell? ⟨z, 2, none⟩ = some (.slice v.ul h.up.length v.ulc) ∧ wx.cell? ⟨z, 3, none⟩ = some (.slice v.wo h.dnF.length v.wc) ∧ wx.cell? ⟨z, 4, none⟩ = some (.slice v.dl h.dn.length v.dlc)) := fun wx hx => five_cells (H0.out wx hx).1
  have HTN : Hid (∀ wx, Below W0.heap.size W0 wx → chk h ≠ (0, []) → Calls Try.prog 6 #[hvl v h] wx fun e w' => ∃ T x, e = .returned (.tuple #[.agg #[.slice none 0 0, .slice none 0 0, .slice none 0 0, .slice none 0 0, .slice none 0 0], .iface T x]) ∧ Below wx.heap.size wx w') := fun wx hx hc => turn_bad v h wx (h0 wx hx).2.1 hb1 hb2 hb3 hc
  have HTO : Hid (∀ wx, Below W0.heap.size W0 wx → chk h = (0, []) → Calls Try.prog 6 #[hvl v h] wx fun e w' => ∃ u, e = .returned (.tuple #[hvl u (turnH h), .nilIface]) ∧ HasH w' u (turnH h) ∧ Below wx.heap.size wx w') := fun wx hx hc => (turn_ok (h0 wx hx).2.1 hc).mono (by rintro e w' ⟨u, rfl, a, _, c⟩; exact ⟨u, rfl, a, c⟩)
  have HCK : Hid (∀ wx, Below W0.heap.size W0 wx → Calls Try.prog 7 #[hvl v h] wx fun e w' => ∃ u, e = .returned u ∧ IsTold w' (chk h) u ∧ Below wx.heap.size wx w') := fun wx hx => check_calls v h wx (h0 wx hx).2.1 hb1 hb2 hb3
  clear hW0 h0 hH
  unfold hvl at HGR HTN HCK ⊢
  unfold cellsH at HW0
  go_enter Try.func3, Try.ntmps3
  go_wp2_with fail
  rw [HW0.out]
  refine (awake21_calls W0).mono ?_
  rintro e w1 ⟨rfl, hbb1⟩
  have HB1 : Hid (Below W0.heap.size W0 w1) := hbb1
  obtain ⟨c0, c1, c2, c3, c4⟩ := HF5.out w1 hbb1
  clear hbb1
  go_wp2_with fail
  refine (HGR.out w1 HB1.out).mono ?_
  rintro e w2 ⟨rfl, hbb2⟩
  have HB2 : Hid (Below W0.heap.size W0 w2) := btrH HB1.out hbb2
  clear hbb2 c0 c1 c2 c3 c4
  obtain ⟨c0, c1, c2, c3, c4⟩ := HF5.out w2 HB2.out
  by_cases hgr : greatB h = true
  · rw [hgr]
    go_wp2
    go_ret
    exact ⟨rfl, (H0.out w2 HB2.out).2.2⟩
  have hgr' : greatB h = false := by simpa using hgr
  rw [hgr']
  clear hgr hgr'
  by_cases hc : chk h = (0, [])
  · have HC : Hid (chk h = (0, [])) := hc
    go_wp2_with fail
    refine (HTO.out w2 HB2.out HC.out).mono ?_
    rintro e w3 ⟨u, rfl, hU, hbb3⟩
    have ht1 : (turnH h).up.length = h.dn.length := by simp [turnH]
    have ht2 : (turnH h).dn.length = h.up.length := by simp [turnH]
    have HTT : Hid ((∀ r d x, MR (turnH h) t s r d x → MR h s t r d x) ∧ (turnH h).up.length ≤ 1152921504606846976 ∧ (turnH h).dn.length ≤ 1152921504606846976 ∧ (turnH h).node.length ≤ 1152921504606846976) := ⟨fun r d x g => mr_turn hc g, by omega, by omega, hb3⟩
    obtain ⟨q, hq⟩ : ∃ q, turnH h = q := ⟨_, rfl⟩
    rw [hq] at hU HTT ⊢
    have HU : Hid (HasH w3 u q) := hU
    have HB3 : Hid (Below W0.heap.size W0 w3) := btrH HB2.out hbb3
    clear hbb3 hU c0 c1 c2 c3 c4 hq ht1 ht2 hc
    unfold hvl
    go_upto_region 6 with fail
    obtain ⟨y, hy⟩ : ∃ y, w3.heap.size = y := ⟨_, rfl⟩
    obtain ⟨W4, hW4⟩ : ∃ W4, w3.alloc (.cells #[.slice u.no q.node.length u.nc, .slice u.uo q.upF.length u.uc, .slice u.ul q.up.length u.ulc, .slice u.wo q.dnF.length u.wc, .slice u.dl q.dn.length u.dlc] 25) = W4 := ⟨_, rfl⟩
    have H4 : Hid (∀ wx, Below W4.heap.size W4 wx → ((wx.cell? ⟨z, 0, none⟩ = some (.slice v.no h.node.length v.nc) ∧ wx.cell? ⟨z, 1, none⟩ = some (.slice v.uo h.upF.length v.uc) ∧ wx.cell? ⟨z, 2, none⟩ = some (.slice v.ul h.up.length v.ulc) ∧ wx.cell? ⟨z, 3, none⟩ = some (.slice v.wo h.dnF.length v.wc) ∧ wx.cell? ⟨z, 4, none⟩ = some (.slice v.dl h.dn.length v.dlc)) ∧ wx.cell? ⟨y, 0, none⟩ = some (.slice u.no q.node.length u.nc) ∧ wx.cell? ⟨y, 1, none⟩ = some (.slice u.uo q.upF.length u.uc) ∧ wx.cell? ⟨y, 2, none⟩ = some (.slice u.ul q.up.length u.ulc) ∧ wx.cell? ⟨y, 3, none⟩ = some (.slice u.wo q.dnF.length u.wc) ∧ wx.cell? ⟨y, 4, none⟩ = some (.slice u.dl q.dn.length u.dlc)) ∧ HasH wx u q ∧ HasH wx v h ∧ Below W0.heap.size W0 wx) := fun wx hx => by
      have g1 : W4.heap[y]? = some (.cells #[.slice u.no q.node.length u.nc, .slice u.uo q.upF.length u.uc, .slice u.ul q.up.length u.ulc, .slice u.wo q.dnF.length u.wc, .slice u.dl q.dn.length u.dlc] 25) := by rw [← hW4, ← hy]; exact heap_newW _ _
      have g2 : Below w3.heap.size w3 W4 := by rw [← hW4]; exact (Below.refl _ _).alloc (Nat.le_refl _) _
      have g3 : Below w3.heap.size w3 wx := btrH g2 hx
      have g4 := btrH HB3.out g3
      exact ⟨⟨HF5.out wx g4, five_cells ((hx.block _ (some_lt g1)).trans g1)⟩, HU.out.keep g3, (H0.out wx g4).2.1, g4⟩
    rw [hW4, hy]
    clear hy hW4 HU HB3
    have HB4 : Hid (Below W4.heap.size W4 W4) := Below.refl _ _
    by_cases hP : Nodes h s t ∧ meetL h s.toNat t.toNat ≠ none
    · obtain ⟨hnod, hmne⟩ := hP
      obtain ⟨⟨r0, d0⟩, hm0⟩ : ∃ rd, meetL h s.toNat t.toNat = some rd := by
        cases hm : meetL h s.toNat t.toNat with
        | none => exact absurd hm hmne
        | some rd => exact ⟨rd, rfl⟩
      have HP : Hid (Nodes h s t) := hnod
      have K1 : Hid (∀ wx, Below W4.heap.size W4 wx → Calls Try.prog 8 #[.agg #[.slice v.no h.node.length v.nc, .slice v.uo h.upF.length v.uc, .slice v.ul h.up.length v.ulc, .slice v.wo h.dnF.length v.wc, .slice v.dl h.dn.length v.dlc], .int .i64 s, .int .i64 t] wx fun e w' => e = .returned (.tuple #[.int .u64 d0, .nilIface]) ∧ Below wx.heap.size wx w') := fun wx hx => (dist_calls v h s t wx (H4.out wx hx).2.2.1 hb1 hb2 hb3).mono (by rintro e w' ⟨r, d, x, hm, rfl, hb⟩; obtain ⟨rfl, rfl, rfl⟩ := mr_is hnod hm0 hm; exact ⟨rfl, hb⟩)
      have K2 : Hid (∀ wx, Below W4.heap.size W4 wx → Calls Try.prog 8 #[.agg #[.slice u.no q.node.length u.nc, .slice u.uo q.upF.length u.uc, .slice u.ul q.up.length u.ulc, .slice u.wo q.dnF.length u.wc, .slice u.dl q.dn.length u.dlc], .int .i64 t, .int .i64 s] wx fun e w' => e = .returned (.tuple #[.int .u64 d0, .nilIface]) ∧ Below wx.heap.size wx w') := fun wx hx => (dist_calls u q t s wx (H4.out wx hx).2.1 HTT.out.2.1 HTT.out.2.2.1 HTT.out.2.2.2).mono (by rintro e w' ⟨r, d, x, hm, rfl, hb⟩; obtain ⟨rfl, rfl, rfl⟩ := mr_is hnod hm0 (HTT.out.1 _ _ _ hm); exact ⟨rfl, hb⟩)
      have K3 : Hid (∀ wx, Below W4.heap.size W4 wx → Calls Try.prog 9 #[.agg #[.slice v.no h.node.length v.nc, .slice v.uo h.upF.length v.uc, .slice v.ul h.up.length v.ulc, .slice v.wo h.dnF.length v.wc, .slice v.dl h.dn.length v.dlc], .int .i64 s, .int .i64 t] wx fun e w' => e = .returned (.tuple #[.int .i64 (r0 : Int), .nilIface]) ∧ Below wx.heap.size wx w') := fun wx hx => (meetR_calls v h s t wx (H4.out wx hx).2.2.1 hb1 hb2 hb3).mono (by rintro e w' ⟨r, d, x, hm, rfl, hb⟩; obtain ⟨rfl, rfl, rfl⟩ := mr_is hnod hm0 hm; exact ⟨rfl, hb⟩)
      have K4 : Hid (∀ wx, Below W4.heap.size W4 wx → Calls Try.prog 9 #[.agg #[.slice u.no q.node.length u.nc, .slice u.uo q.upF.length u.uc, .slice u.ul q.up.length u.ulc, .slice u.wo q.dnF.length u.wc, .slice u.dl q.dn.length u.dlc], .int .i64 t, .int .i64 s] wx fun e w' => e = .returned (.tuple #[.int .i64 (r0 : Int), .nilIface]) ∧ Below wx.heap.size wx w') := fun wx hx => (meetR_calls u q t s wx (H4.out wx hx).2.1 HTT.out.2.1 HTT.out.2.2.1 HTT.out.2.2.2).mono (by rintro e w' ⟨r, d, x, hm, rfl, hb⟩; obtain ⟨rfl, rfl, rfl⟩ := mr_is hnod hm0 (HTT.out.1 _ _ _ hm); exact ⟨rfl, hb⟩)
      clear hnod hmne hm0
      obtain ⟨⟨⟨c0, c1, c2, c3, c4⟩, d0, d1, d2, d3, d4⟩, _⟩ := H4.out W4 HB4.out
      go_wp2_with fail
      refine (K1.out W4 HB4.out).mono ?_
      rintro e w5 ⟨rfl, hbb5⟩
      have HB5 : Hid (Below W4.heap.size W4 w5) := btrH HB4.out hbb5
      clear hbb5
      clear c0 c1 c2 c3 c4 d0 d1 d2 d3 d4
      obtain ⟨⟨⟨c0, c1, c2, c3, c4⟩, d0, d1, d2, d3, d4⟩, _⟩ := H4.out w5 HB5.out
      go_wp2_with fail
      refine (K2.out w5 HB5.out).mono ?_
      rintro e w6 ⟨rfl, hbb6⟩
      have HB6 : Hid (Below W4.heap.size W4 w6) := btrH HB5.out hbb6
      clear hbb6
      clear c0 c1 c2 c3 c4 d0 d1 d2 d3 d4
      obtain ⟨⟨⟨c0, c1, c2, c3, c4⟩, d0, d1, d2, d3, d4⟩, _⟩ := H4.out w6 HB6.out
      go_wp2_with fail
      refine (K3.out w6 HB6.out).mono ?_
      rintro e w7 ⟨rfl, hbb7⟩
      have HB7 : Hid (Below W4.heap.size W4 w7) := btrH HB6.out hbb7
      clear hbb7
      clear c0 c1 c2 c3 c4 d0 d1 d2 d3 d4
      obtain ⟨⟨⟨c0, c1, c2, c3, c4⟩, d0, d1, d2, d3, d4⟩, _⟩ := H4.out w7 HB7.out
      go_wp2_with fail
      refine (K4.out w7 HB7.out).mono ?_
      rintro e w8 ⟨rfl, hbb8⟩
      have HB8 : Hid (Below W4.heap.size W4 w8) := btrH HB7.out hbb8
      clear hbb8
      clear c0 c1 c2 c3 c4 d0 d1 d2 d3 d4
      obtain ⟨⟨⟨c0, c1, c2, c3, c4⟩, d0, d1, d2, d3, d4⟩, _⟩ := H4.out w8 HB8.out
      go_wp2_with fail
      go_region_held3 (fun w' => w'.cell? ⟨z, 0, none⟩ = some (.slice v.no h.node.length v.nc)) (go_keep) (fail)
      obtain ⟨n, hn⟩ : ∃ n, h.node.length = n := ⟨_, rfl⟩
      have HNL : Hid (h.node.length = n) := hn
      have hn9 : n ≤ 65536 := by have := (chk_ok HC.out).1; omega
      rw [hn] at c0
      clear c1 c2 c3 c4 d0 d1 d2 d3 d4
      go_wp2_with fail
      go_loopw [97] (fun iv wr => ∃ j : Nat, j ≤ n ∧ iv = .int .i64 j ∧ Hid (Below W4.heap.size W4 wr) ∧ ∀ i, i < j → (nth h.node i : Int) ≠ s) (fun iv _ => n - (intOf iv).toNat)
      case atStart => exact ⟨0, Nat.zero_le _, rfl, (by first | exact HB8.out.drew | exact bdrew HB8.out _ | exact HB8.out), fun i hi => by omega⟩
      case round =>
        obtain ⟨j, hj, rfl, HB, hne⟩ := hrel
        rcases Nat.lt_or_eq_of_le hj with h1 | h1
        · have hnd := (H4.out wr HB.out).2.2.1.node
          rw [HNL.out] at hnd
          obtain ⟨b, off, e1, hbl, hcc⟩ := hnd.cells (by omega)
          have ck := hcc j h1
          have hsm := hnd.small j
          obtain ⟨x, hx⟩ : ∃ x, nth h.node j = x := ⟨_, rfl⟩
          have HX : Hid (nth h.node j = x) := hx
          rw [hx] at ck hsm
          have HV : Hid (v.no = some ⟨b, off, none⟩) := e1
          have i1 : (j : Int) < (n : Int) := by omega
          have i2 : (0 : Int) ≤ (j : Int) := by omega
          have i3 : IntKind.i64.wrap (x : Int) = (x : Int) := by rw [IntKind.wrap_i64]; omega
          rw [e1]
          clear hnd hcc hx
          by_cases hxs : (x : Int) = s
          · have i4 : ((x : Int) == s) = true := by simpa using hxs
            have KS1 : Hid (∀ wx, Below W4.heap.size W4 wx → Calls Try.prog 8 #[.agg #[.slice v.no h.node.length v.nc, .slice v.uo h.upF.length v.uc, .slice v.ul h.up.length v.ulc, .slice v.wo h.dnF.length v.wc, .slice v.dl h.dn.length v.dlc], .int .i64 s, .int .i64 s] wx fun e w' => e = .returned (.tuple #[.int .u64 0, .nilIface]) ∧ Below wx.heap.size wx w') := fun wx hx => (dist_calls v h s s wx (H4.out wx hx).2.2.1 hb1 hb2 hb3).mono (by
              rintro e w' ⟨r, d, u, hm, rfl, hb⟩
              obtain ⟨_, rfl, rfl⟩ := mr_self HC.out (by rw [HNL.out]; exact h1) (by rw [HX.out]; exact hxs) hm
              exact ⟨rfl, hb⟩)
            have KS2 : Hid (∀ wx, Below W4.heap.size W4 wx → Calls Try.prog 9 #[.agg #[.slice v.no h.node.length v.nc, .slice v.uo h.upF.length v.uc, .slice v.ul h.up.length v.ulc, .slice v.wo h.dnF.length v.wc, .slice v.dl h.dn.length v.dlc], .int .i64 s, .int .i64 s] wx fun e w' => e = .returned (.tuple #[.int .i64 (j : Int), .nilIface]) ∧ Below wx.heap.size wx w') := fun wx hx => (meetR_calls v h s s wx (H4.out wx hx).2.2.1 hb1 hb2 hb3).mono (by
              rintro e w' ⟨r, d, u, hm, rfl, hb⟩
              obtain ⟨rfl, _, rfl⟩ := mr_self HC.out (by rw [HNL.out]; exact h1) (by rw [HX.out]; exact hxs) hm
              exact ⟨rfl, hb⟩)
            obtain ⟨⟨⟨c0, c1, c2, c3, c4⟩, _⟩, _⟩ := H4.out wr HB.out
            rw [HV.out] at c0 KS1 KS2
            rw [HNL.out] at c0 KS1 KS2
            subst hxs
            go_wp2_with fail
            refine (KS1.out wr HB.out).mono ?_
            rintro e w10 ⟨rfl, hbb10⟩
            have HB10 : Hid (Below W4.heap.size W4 w10) := btrH HB.out hbb10
            clear hbb10 c0 c1 c2 c3 c4
            obtain ⟨⟨⟨c0, c1, c2, c3, c4⟩, _⟩, _⟩ := H4.out w10 HB10.out
            rw [HV.out, HNL.out] at c0
            go_wp2_with fail
            refine (KS2.out w10 HB10.out).mono ?_
            rintro e w11 ⟨rfl, hbb11⟩
            have HB11 : Hid (Below W4.heap.size W4 w11) := btrH HB10.out hbb11
            clear hbb11 c0 c1 c2 c3 c4
            go_wp2
            go_ret
            exact ⟨rfl, (H0.out w11 (H4.out w11 HB11.out).2.2.2).2.2⟩
          · have i4 : ((x : Int) == s) = false := by simpa using hxs
            have HNE : Hid (∀ i, i < j + 1 → (nth h.node i : Int) ≠ s) := fun i hi => by
              rcases Nat.lt_or_eq_of_le (Nat.le_of_lt_succ hi) with g | g
              · exact hne i g
              · rw [g, HX.out]; exact hxs
            go_wp2
            go_roundw
            case rel => exact ⟨j + 1, by omega, by go_num, HB.out, HNE.out⟩
            case measure => simp [intOf]; omega
        · subst h1
          exfalso
          obtain ⟨k1, k2, k3, k4, k5, k6, k7, k8⟩ := chk_ok HC.out
          obtain ⟨r0, hr0, e0⟩ := node_has k7 (v := s.toNat) (by have := HP.out.2.1; omega)
          exact hne r0 (by rw [← HNL.out]; exact hr0) (by rw [e0]; have := HP.out.2.1; omega)
    · have K1 : Hid (∀ wx, Below W4.heap.size W4 wx → Calls Try.prog 8 #[.agg #[.slice v.no h.node.length v.nc, .slice v.uo h.upF.length v.uc, .slice v.ul h.up.length v.ulc, .slice v.wo h.dnF.length v.wc, .slice v.dl h.dn.length v.dlc], .int .i64 s, .int .i64 t] wx fun e w' => ∃ T x, e = .returned (.tuple #[.int .u64 0, .iface T x]) ∧ Below wx.heap.size wx w') := fun wx hx => (dist_calls v h s t wx (H4.out wx hx).2.2.1 hb1 hb2 hb3).mono (by rintro e w' ⟨r, d, x, hm, rfl, hb⟩; obtain ⟨rfl, rfl, T, y, rfl⟩ := mr_no hP hm; exact ⟨T, y, rfl, hb⟩)
      have K2 : Hid (∀ wx, Below W4.heap.size W4 wx → Calls Try.prog 8 #[.agg #[.slice u.no q.node.length u.nc, .slice u.uo q.upF.length u.uc, .slice u.ul q.up.length u.ulc, .slice u.wo q.dnF.length u.wc, .slice u.dl q.dn.length u.dlc], .int .i64 t, .int .i64 s] wx fun e w' => ∃ T x, e = .returned (.tuple #[.int .u64 0, .iface T x]) ∧ Below wx.heap.size wx w') := fun wx hx => (dist_calls u q t s wx (H4.out wx hx).2.1 HTT.out.2.1 HTT.out.2.2.1 HTT.out.2.2.2).mono (by rintro e w' ⟨r, d, x, hm, rfl, hb⟩; obtain ⟨rfl, rfl, T, y, rfl⟩ := mr_no hP (HTT.out.1 _ _ _ hm); exact ⟨T, y, rfl, hb⟩)
      have K3 : Hid (∀ wx, Below W4.heap.size W4 wx → Calls Try.prog 9 #[.agg #[.slice v.no h.node.length v.nc, .slice v.uo h.upF.length v.uc, .slice v.ul h.up.length v.ulc, .slice v.wo h.dnF.length v.wc, .slice v.dl h.dn.length v.dlc], .int .i64 s, .int .i64 t] wx fun e w' => ∃ T x, e = .returned (.tuple #[.int .i64 0, .iface T x]) ∧ Below wx.heap.size wx w') := fun wx hx => (meetR_calls v h s t wx (H4.out wx hx).2.2.1 hb1 hb2 hb3).mono (by rintro e w' ⟨r, d, x, hm, rfl, hb⟩; obtain ⟨rfl, rfl, T, y, rfl⟩ := mr_no hP hm; exact ⟨T, y, rfl, hb⟩)
      have K4 : Hid (∀ wx, Below W4.heap.size W4 wx → Calls Try.prog 9 #[.agg #[.slice u.no q.node.length u.nc, .slice u.uo q.upF.length u.uc, .slice u.ul q.up.length u.ulc, .slice u.wo q.dnF.length u.wc, .slice u.dl q.dn.length u.dlc], .int .i64 t, .int .i64 s] wx fun e w' => ∃ T x, e = .returned (.tuple #[.int .i64 0, .iface T x]) ∧ Below wx.heap.size wx w') := fun wx hx => (meetR_calls u q t s wx (H4.out wx hx).2.1 HTT.out.2.1 HTT.out.2.2.1 HTT.out.2.2.2).mono (by rintro e w' ⟨r, d, x, hm, rfl, hb⟩; obtain ⟨rfl, rfl, T, y, rfl⟩ := mr_no hP (HTT.out.1 _ _ _ hm); exact ⟨T, y, rfl, hb⟩)
      clear hP
      obtain ⟨⟨⟨c0, c1, c2, c3, c4⟩, d0, d1, d2, d3, d4⟩, _⟩ := H4.out W4 HB4.out
      go_wp2_with fail
      refine (K1.out W4 HB4.out).mono ?_
      rintro e w5 ⟨T5, x5, rfl, hbb5⟩
      have HB5 : Hid (Below W4.heap.size W4 w5) := btrH HB4.out hbb5
      clear hbb5
      clear c0 c1 c2 c3 c4 d0 d1 d2 d3 d4
      obtain ⟨⟨⟨c0, c1, c2, c3, c4⟩, d0, d1, d2, d3, d4⟩, _⟩ := H4.out w5 HB5.out
      go_wp2_with fail
      refine (K2.out w5 HB5.out).mono ?_
      rintro e w6 ⟨T6, x6, rfl, hbb6⟩
      have HB6 : Hid (Below W4.heap.size W4 w6) := btrH HB5.out hbb6
      clear hbb6
      clear c0 c1 c2 c3 c4 d0 d1 d2 d3 d4
      obtain ⟨⟨⟨c0, c1, c2, c3, c4⟩, d0, d1, d2, d3, d4⟩, _⟩ := H4.out w6 HB6.out
      go_wp2_with fail
      refine (K3.out w6 HB6.out).mono ?_
      rintro e w7 ⟨T7, x7, rfl, hbb7⟩
      have HB7 : Hid (Below W4.heap.size W4 w7) := btrH HB6.out hbb7
      clear hbb7
      clear c0 c1 c2 c3 c4 d0 d1 d2 d3 d4
      obtain ⟨⟨⟨c0, c1, c2, c3, c4⟩, d0, d1, d2, d3, d4⟩, _⟩ := H4.out w7 HB7.out
      go_wp2_with fail
      refine (K4.out w7 HB7.out).mono ?_
      rintro e w8 ⟨T8, x8, rfl, hbb8⟩
      have HB8 : Hid (Below W4.heap.size W4 w8) := btrH HB7.out hbb8
      clear hbb8
      clear c0 c1 c2 c3 c4 d0 d1 d2 d3 d4
      obtain ⟨⟨⟨c0, c1, c2, c3, c4⟩, d0, d1, d2, d3, d4⟩, _⟩ := H4.out w8 HB8.out
      go_wp2_with fail
      go_region_held3 (fun w' => w'.cell? ⟨z, 0, none⟩ = some (.slice v.no h.node.length v.nc)) (go_keep) (fail)
      obtain ⟨n, hn⟩ : ∃ n, h.node.length = n := ⟨_, rfl⟩
      have HNL : Hid (h.node.length = n) := hn
      have hn9 : n ≤ 65536 := by have := (chk_ok HC.out).1; omega
      rw [hn] at c0
      clear c1 c2 c3 c4 d0 d1 d2 d3 d4
      go_wp2_with fail
      go_loopw [97] (fun iv wr => ∃ j : Nat, j ≤ n ∧ iv = .int .i64 j ∧ Hid (Below W4.heap.size W4 wr) ∧ ∀ i, i < j → (nth h.node i : Int) ≠ s) (fun iv _ => n - (intOf iv).toNat)
      case atStart => exact ⟨0, Nat.zero_le _, rfl, (by first | exact HB8.out.drew | exact bdrew HB8.out _ | exact HB8.out), fun i hi => by omega⟩
      case round =>
        obtain ⟨j, hj, rfl, HB, hne⟩ := hrel
        rcases Nat.lt_or_eq_of_le hj with h1 | h1
        · have hnd := (H4.out wr HB.out).2.2.1.node
          rw [HNL.out] at hnd
          obtain ⟨b, off, e1, hbl, hcc⟩ := hnd.cells (by omega)
          have ck := hcc j h1
          have hsm := hnd.small j
          obtain ⟨x, hx⟩ : ∃ x, nth h.node j = x := ⟨_, rfl⟩
          have HX : Hid (nth h.node j = x) := hx
          rw [hx] at ck hsm
          have HV : Hid (v.no = some ⟨b, off, none⟩) := e1
          have i1 : (j : Int) < (n : Int) := by omega
          have i2 : (0 : Int) ≤ (j : Int) := by omega
          have i3 : IntKind.i64.wrap (x : Int) = (x : Int) := by rw [IntKind.wrap_i64]; omega
          rw [e1]
          clear hnd hcc hx
          by_cases hxs : (x : Int) = s
          · have i4 : ((x : Int) == s) = true := by simpa using hxs
            have KS1 : Hid (∀ wx, Below W4.heap.size W4 wx → Calls Try.prog 8 #[.agg #[.slice v.no h.node.length v.nc, .slice v.uo h.upF.length v.uc, .slice v.ul h.up.length v.ulc, .slice v.wo h.dnF.length v.wc, .slice v.dl h.dn.length v.dlc], .int .i64 s, .int .i64 s] wx fun e w' => e = .returned (.tuple #[.int .u64 0, .nilIface]) ∧ Below wx.heap.size wx w') := fun wx hx => (dist_calls v h s s wx (H4.out wx hx).2.2.1 hb1 hb2 hb3).mono (by
              rintro e w' ⟨r, d, u, hm, rfl, hb⟩
              obtain ⟨_, rfl, rfl⟩ := mr_self HC.out (by rw [HNL.out]; exact h1) (by rw [HX.out]; exact hxs) hm
              exact ⟨rfl, hb⟩)
            have KS2 : Hid (∀ wx, Below W4.heap.size W4 wx → Calls Try.prog 9 #[.agg #[.slice v.no h.node.length v.nc, .slice v.uo h.upF.length v.uc, .slice v.ul h.up.length v.ulc, .slice v.wo h.dnF.length v.wc, .slice v.dl h.dn.length v.dlc], .int .i64 s, .int .i64 s] wx fun e w' => e = .returned (.tuple #[.int .i64 (j : Int), .nilIface]) ∧ Below wx.heap.size wx w') := fun wx hx => (meetR_calls v h s s wx (H4.out wx hx).2.2.1 hb1 hb2 hb3).mono (by
              rintro e w' ⟨r, d, u, hm, rfl, hb⟩
              obtain ⟨rfl, _, rfl⟩ := mr_self HC.out (by rw [HNL.out]; exact h1) (by rw [HX.out]; exact hxs) hm
              exact ⟨rfl, hb⟩)
            obtain ⟨⟨⟨c0, c1, c2, c3, c4⟩, _⟩, _⟩ := H4.out wr HB.out
            rw [HV.out] at c0 KS1 KS2
            rw [HNL.out] at c0 KS1 KS2
            subst hxs
            go_wp2_with fail
            refine (KS1.out wr HB.out).mono ?_
            rintro e w10 ⟨rfl, hbb10⟩
            have HB10 : Hid (Below W4.heap.size W4 w10) := btrH HB.out hbb10
            clear hbb10 c0 c1 c2 c3 c4
            obtain ⟨⟨⟨c0, c1, c2, c3, c4⟩, _⟩, _⟩ := H4.out w10 HB10.out
            rw [HV.out, HNL.out] at c0
            go_wp2_with fail
            refine (KS2.out w10 HB10.out).mono ?_
            rintro e w11 ⟨rfl, hbb11⟩
            have HB11 : Hid (Below W4.heap.size W4 w11) := btrH HB10.out hbb11
            clear hbb11 c0 c1 c2 c3 c4
            go_wp2
            go_ret
            exact ⟨rfl, (H0.out w11 (H4.out w11 HB11.out).2.2.2).2.2⟩
          · have i4 : ((x : Int) == s) = false := by simpa using hxs
            have HNE : Hid (∀ i, i < j + 1 → (nth h.node i : Int) ≠ s) := fun i hi => by
              rcases Nat.lt_or_eq_of_le (Nat.le_of_lt_succ hi) with g | g
              · exact hne i g
              · rw [g, HX.out]; exact hxs
            go_wp2
            go_roundw
            case rel => exact ⟨j + 1, by omega, by go_num, HB.out, HNE.out⟩
            case measure => simp [intOf]; omega
        · subst h1
          go_wp2
          go_ret
          exact ⟨rfl, (H0.out wr (H4.out wr HB.out).2.2.2).2.2⟩
  · have HC : Hid (chk h ≠ (0, [])) := hc
    go_wp2_with fail
    refine (HTN.out w2 HB2.out HC.out).mono ?_
    rintro e w3 ⟨tt, xx, rfl, hbb3⟩
    have HB3 : Hid (Below W0.heap.size W0 w3) := btrH HB2.out hbb3
    clear hbb3 c0 c1 c2 c3 c4 hc
    go_upto_region 6 with fail
    obtain ⟨W4, hW4⟩ : ∃ W4, w3.alloc (.cells #[.slice none 0 0, .slice none 0 0, .slice none 0 0, .slice none 0 0, .slice none 0 0] 25) = W4 := ⟨_, rfl⟩
    have HB4 : Hid (Below W0.heap.size W0 W4) := by show Below _ _ _; rw [← hW4]; exact HB3.out.alloc HB3.out.size _
    rw [hW4]
    clear hW4
    obtain ⟨c0, c1, c2, c3, c4⟩ := HF5.out W4 HB4.out
    go_wp2_with fail
    refine (HCK.out W4 HB4.out).mono ?_
    rintro e w5 ⟨x5, rfl, ht5, hbb5⟩
    obtain ⟨t5, y5, hu5, _⟩ := isTold_some ht5 HC.out
    subst hu5
    have HB5 : Hid (Below W0.heap.size W0 w5) := btrH HB4.out hbb5
    clear hbb5 ht5 c0 c1 c2 c3 c4
    go_wp2
    go_ret
    exact ⟨rfl, (H0.out w5 HB5.out).2.2⟩

set_option maxRecDepth 100000 in
theorem turns21_lifted (os : Os) (started : os.Started) (H : Type) (enc : TypeId × Value → H) :
    ReturnsInHanded {} Try.checked os 3 .any (Rows.queryTurnsSpec.pre6 enc Try.prog Try.f3 Rows.queryTurnsRow.domain false) (Rows.queryTurnsSpec.post enc Try.prog Try.f3 false true false false) := by
  refine returnsInHanded_of_change_sized (C := Try.checked) Try.own started (by kernel_rfl) Try.func3
    (ChangeSpec.witness6 (enc := enc) (C := Try.checked) false ⟨#[], #[.agg #[.slice none 0 0, .slice none 0 0, .slice none 0 0, .slice none 0 0, .slice none 0 0], .int .i64 0, .int .i64 0], []⟩ 8 (by kernel_rfl) (by kernel_rfl) (by kernel_rfl) (by kernel_rfl)) ?_
  intro W base args ds gs before hval0 hW _ hsz0 _
  have hval : ∀ (j : Nat) t v, Try.f3.params[j]? = some t → args[j]? = some v → Value.okWide Try.prog W .any base t v := hval0
  have hsz : (DataW.weightsEach Try.prog (Try.f3.params.toList ++ Rows.queryTurnsSpec.plain.varTypes Try.prog) (ds ++ gs)).all (· ≤ reachBytes) = true := hsz0
  have hW' := hW
  obtain ⟨p, q, hA0, hV, rfl, hfz, hnd⟩ := hW
  have hA : DataW.TrodAll enc Try.prog W 0 (fun _ => true) true Try.f3.params.toList args.toList ds p := hA0
  rw [Try.params3] at hA hval hsz
  obtain ⟨v0, vs0, d0, ds0, p0, q0, hargs, rfl, rfl, hr0, r0⟩ := trodAll_cons hA
  obtain ⟨v1, vs1, d1, ds1, p1, q1, rfl, rfl, rfl, hr1, r1⟩ := trodAll_cons r0
  obtain ⟨v2, vs2, d2, ds2, p2, q2, rfl, rfl, rfl, hr2, r2⟩ := trodAll_cons r1
  obtain ⟨rfl, rfl, rfl⟩ := trodAll_nil r2
  obtain rfl : args = #[v0, v1, v2] := by cases args; simp at hargs; simp [hargs]
  obtain ⟨rfl, rfl⟩ := trodVars_none hV
  obtain ⟨x, a, e0, e1, e2, e3, e4, rfl, hH, rfl, s0, s2, s4, _, _⟩ := hier_open (hval 0 25 v0 rfl rfl) hr0
  obtain ⟨s, rfl, _, _, _⟩ := open_int Try.underlying3 (hval 1 3 v1 rfl rfl) hr1
  obtain ⟨t, rfl, _, _, _⟩ := open_int Try.underlying3 (hval 2 3 v2 rfl rfl) hr2
  have n0 := reach_w hsz (j := 0) rfl rfl (Or.inl rfl) s0
  have n2 := reach_l hsz (j := 0) rfl rfl (Or.inl rfl) s2
  have n4 := reach_l hsz (j := 0) rfl rfl (Or.inr rfl) s4
  refine (turns21 x a s t W hH (by omega) (by omega) (by omega)).mono fun e W' ⟨he, hw⟩ => ?_
  subst he
  exact ⟨_, rfl, post_of_law hW' rfl (by kernel_rfl) rfl (by rw [Try.params3]; intro t ht; simp at ht; rcases ht with rfl | rfl <;> exact ⟨by kernel_rfl, of_decide_eq_true (by kernel_rfl)⟩) hw⟩
end Go.Proofs.Ytepkogijignmlab.Qy

namespace Go.Proofs.Ytepkogijignmlab
open Go.ChangeShapes Go.WideShapes Go.ChangeAt Go.RowKit Go.Deep Go.Extern
theorem queryTurns_holds : Rows.QueryTurnsSaid :=
  OpenClaim.holds_of_wide 3 Try.f3 rfl rfl rfl rfl rfl rfl rfl ⟨rfl, rfl, rfl, rfl, rfl⟩ rfl rfl rfl rfl rfl (by kernel_rfl) Try.func3 (by kernel_rfl)
    (of_decide_eq_true (by kernel_rfl)) (by unfold Func.isWrapper; rw [if_neg (of_decide_eq_false (by kernel_rfl))]; exact ⟨rfl, rfl⟩)
    (fun os started H enc _ => Qy.turns21_lifted os started H enc)
#print axioms queryTurns_holds
end Go.Proofs.Ytepkogijignmlab
