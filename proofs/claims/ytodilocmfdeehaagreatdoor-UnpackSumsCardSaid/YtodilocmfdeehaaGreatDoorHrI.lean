/- hier.Check. -/
import Derived.Test.YtodilocmfdeehaaGreatDoorHrH
namespace Go.Proofs.YtodilocmfdeehaaGreatDoor.Hi
open Go.RowKit Go.Extern Go.Shelf

attribute [local go_sem] Oper.semAt_some

theorem isE_cells {v : Value} (h : IsE v) : v.cells = #[v] := by
  rcases h with rfl | ⟨t, x, rfl⟩ <;> rfl
theorem isTold_nil {w : World} {v : Value} (h : IsTold w (0, []) v) : v = .nilIface := by
  rcases h with ⟨_, h⟩ | ⟨h, _⟩
  · exact h
  · exact absurd rfl h
theorem isTold_some {w : World} {e : Int × List (Int × Int)} {v : Value} (h : IsTold w e v) (he : e ≠ (0, [])) : ∃ t x, v = .iface t x ∧ v ≠ .nilIface := by
  rcases h with ⟨h, _⟩ | ⟨_, h⟩
  · exact absurd h he
  · obtain ⟨c, ps⟩ := e
    cases ps with
    | nil => exact ⟨_, _, h, by rw [h]; simp⟩
    | cons p ps => obtain ⟨b, u, h, _⟩ := h; exact ⟨_, _, h, by rw [h]; simp⟩
theorem first_told {w : World} {E1 E2 E3 : Int × List (Int × Int)} {a b c v : Value} (h1 : IsTold w E1 a) (h2 : IsTold w E2 b) (h3 : IsTold w E3 c) (h : First3 a b c v) : IsTold w (orE E1 (orE E2 E3)) v := by
  unfold orE
  by_cases g1 : E1 = (0, [])
  · rw [if_pos g1]
    subst g1
    have := isTold_nil h1
    subst this
    by_cases g2 : E2 = (0, [])
    · rw [if_pos g2]
      subst g2
      have := isTold_nil h2
      subst this
      rcases h with ⟨h, _⟩ | ⟨_, h, _⟩ | ⟨_, _, rfl⟩
      · exact absurd rfl h
      · exact absurd rfl h
      · exact h3
    · rw [if_neg g2]
      obtain ⟨_, _, _, g3⟩ := isTold_some h2 g2
      rcases h with ⟨h, _⟩ | ⟨_, _, rfl⟩ | ⟨_, h, _⟩
      · exact absurd rfl h
      · exact h2
      · exact absurd h g3
  · rw [if_neg g1]
    obtain ⟨_, _, _, g3⟩ := isTold_some h1 g1
    rcases h with ⟨_, rfl⟩ | ⟨h, _⟩ | ⟨h, _⟩
    · exact h1
    · exact absurd h g3
    · exact absurd h g3
theorem first_three {w : World} {E1 E2 E3 : Int × List (Int × Int)} {a b c : Value} (h3 : IsTold w E3 c) (h2 : IsTold w E2 b) (h1 : IsTold w E1 a) :
    Calls Tryz.prog 55 #[.slice (some ⟨w.heap.size, 0, none⟩) 3 3] (w.alloc (.cells #[a, b, c] 30)) fun e w' => ∃ v, e = .returned v ∧ IsTold w' (orE E1 (orE E2 E3)) v ∧ Below w.heap.size w w' := by
  have hh := heap_newW w (.cells #[a, b, c] 30)
  have hb : Below w.heap.size w (w.alloc (.cells #[a, b, c] 30)) := (Below.refl _ _).alloc (Nat.le_refl _) _
  generalize w.alloc (.cells #[a, b, c] 30) = W at hh hb
  refine (first_calls w.heap.size 3 a b c W (told_isE h1) (told_isE h2) (told_isE h3) (by simp [World.cell?, hh]) (by simp [World.cell?, hh]) (by simp [World.cell?, hh])).mono ?_
  rintro e w' ⟨v, he, hv, hb'⟩
  have hk : Keeps w w' := (Below.keeps hb).trans (Below.keeps hb')
  exact ⟨v, he, first_told (h1.keep hk) (h2.keep hk) (h3.keep hk) hv, hb.trans (hb'.mono hb.size)⟩
theorem orE_assoc (a b c d : Int × List (Int × Int)) : orE a (orE b (orE c d)) = orE (orE a (orE b c)) d := by
  unfold orE
  by_cases h1 : a = (0, [])
  · simp only [h1, if_true]
    by_cases h2 : b = (0, [])
    · simp only [h2, if_true]
    · simp only [h2, if_false]
  · simp only [h1, if_false]

set_option maxRecDepth 100000 in
set_option maxHeartbeats 4000000 in
theorem check_calls (v : HV) (h : Hr) (w : World) (hH : HasH w v h) (hb1 : h.up.length ≤ 1152921504606846976) (hb2 : h.dn.length ≤ 1152921504606846976) (hb3 : h.node.length ≤ 1152921504606846976) :
    Calls Tryz.prog 31 #[hvl v h] w fun e w' => ∃ u, e = .returned u ∧ IsTold w' (chk h) u ∧ Below w.heap.size w w' := by
  obtain ⟨W0, hW0⟩ : ∃ W0, w.alloc (.cells (cellsH v h) 25) = W0 := ⟨_, rfl⟩
  have hB0 : Below w.heap.size w W0 := by rw [← hW0]; exact (Below.refl _ _).alloc (Nat.le_refl _) _
  have hx0 : W0.heap[w.heap.size]? = some (.cells (cellsH v h) 25) := by rw [← hW0]; exact heap_newW _ _
  have hlt0 := some_lt hx0
  have HW0 : Hid (w.alloc (.cells (cellsH v h) 25) = W0) := hW0
  have HX0 : Hid (HasH W0 v h ∧ Below w.heap.size w W0) := ⟨hH.keep hB0, hB0⟩
  obtain ⟨c0, c1, c2, c3, c4⟩ := five_cells hx0
  have HKS : Hid (∀ wx, Below W0.heap.size W0 wx → wx.cell? ⟨w.heap.size, 0, none⟩ = some (.slice v.no h.node.length v.nc) ∧ wx.cell? ⟨w.heap.size, 1, none⟩ = some (.slice v.uo h.upF.length v.uc) ∧ wx.cell? ⟨w.heap.size, 2, none⟩ = some (.slice v.ul h.up.length v.ulc) ∧ wx.cell? ⟨w.heap.size, 3, none⟩ = some (.slice v.wo h.dnF.length v.wc) ∧ wx.cell? ⟨w.heap.size, 4, none⟩ = some (.slice v.dl h.dn.length v.dlc)) := fun wx hx => five_cells ((hx.block _ hlt0).trans hx0)
  clear hW0 hx0 hB0 hH
  unfold hvl
  unfold cellsH at HW0
  obtain ⟨n, hn⟩ : ∃ n, h.node.length = n := ⟨_, rfl⟩
  obtain ⟨a, ha⟩ : ∃ a, h.up.length = a := ⟨_, rfl⟩
  obtain ⟨b, hb⟩ : ∃ b, h.dn.length = b := ⟨_, rfl⟩
  have HC : Hid (chk h = if 65536 < n ∨ 1048576 < a + b then (9, []) else if h.upF.length ≠ n + 1 ∨ h.dnF.length ≠ n + 1 then (14, []) else orE (cf h.upF a) (orE (cf h.dnF b) (orE (cn h.node) (cl n (stds h))))) := by show _ = _; rw [chk, hn, ha, hb]
  have HL : Hid (h.node.length = n ∧ h.up.length = a ∧ h.dn.length = b) := ⟨hn, ha, hb⟩
  rw [hn] at c0 HKS hb3 HW0 ⊢
  rw [ha] at c2 HKS hb1 HW0 ⊢
  rw [hb] at c4 HKS hb2 HW0 ⊢
  clear hn ha hb
  have wab : IntKind.i64.wrap ((a : Int) + (b : Int)) = (a : Int) + (b : Int) := by rw [IntKind.wrap_i64]; omega
  have wn1 : IntKind.i64.wrap ((n : Int) + 1) = (n : Int) + 1 := by rw [IntKind.wrap_i64]; omega
  by_cases hn : 65536 < n
  · have d1 : decide ((65536 : Int) < (n : Int)) = true := by simp; omega
    have d2 : decide (65536 < n) = true := by simp; omega
    go_enter Tryz.func31, Tryz.ntmps31
    go_upto_region 1 with fail
    rw [HW0.out]
    go_wp2
    go_ret
    exact ⟨_, rfl, by rw [HC.out, if_pos (Or.inl hn)]; exact told_num _ (by decide), HX0.out.2⟩
  have d1 : decide ((65536 : Int) < (n : Int)) = false := by simp; omega
  have d2 : decide (65536 < n) = false := by simp; omega
  by_cases hab : 1048576 < a + b
  · have d3 : decide ((1048576 : Int) < (a : Int) + (b : Int)) = true := by simp; omega
    go_enter Tryz.func31, Tryz.ntmps31
    go_upto_region 1 with fail
    rw [HW0.out]
    go_wp2
    go_ret
    exact ⟨_, rfl, by rw [HC.out, if_pos (Or.inr hab)]; exact told_num _ (by decide), HX0.out.2⟩
  have d3 : decide ((1048576 : Int) < (a : Int) + (b : Int)) = false := by simp; omega
  rw [if_neg (by simp only [not_or]; exact ⟨hn, hab⟩)] at HC
  obtain ⟨fu, hfu⟩ : ∃ fu, h.upF.length = fu := ⟨_, rfl⟩
  obtain ⟨fd, hfd⟩ : ∃ fd, h.dnF.length = fd := ⟨_, rfl⟩
  have HL2 : Hid (h.upF.length = fu ∧ h.dnF.length = fd) := ⟨hfu, hfd⟩
  rw [hfu] at c1 HKS HC HW0 ⊢
  rw [hfd] at c3 HKS HC HW0 ⊢
  clear hfu hfd
  by_cases hf1 : ¬ fu = n + 1
  · have d4 : ((fu : Int) != (n : Int) + 1) = true := by simp; omega
    go_enter Tryz.func31, Tryz.ntmps31
    go_upto_region 1 with fail
    rw [HW0.out]
    go_wp2
    go_ret
    exact ⟨_, rfl, by rw [HC.out, if_pos (Or.inl hf1)]; exact told_num _ (by decide), HX0.out.2⟩
  have hf1 : fu = n + 1 := by omega
  have d4 : ((fu : Int) != (n : Int) + 1) = false := by simp; omega
  by_cases hf2 : ¬ fd = n + 1
  · have d5 : ((fd : Int) != (n : Int) + 1) = true := by simp; omega
    have HF2 : Hid (¬ fd = n + 1) := hf2
    clear hf1 hf2
    go_enter Tryz.func31, Tryz.ntmps31
    go_upto_region 1 with fail
    rw [HW0.out]
    go_wp2
    go_ret
    exact ⟨_, rfl, by rw [HC.out, if_pos (Or.inr HF2.out)]; exact told_num _ (by decide), HX0.out.2⟩
  have hf2 : fd = n + 1 := by omega
  have d5 : ((fd : Int) != (n : Int) + 1) = false := by simp; omega
  rw [if_neg (by simp [hf1, hf2]), orE_assoc] at HC
  have HF : Hid (fu = n + 1 ∧ fd = n + 1) := ⟨hf1, hf2⟩
  clear hf1 hf2
  have H1 : Hid (∀ wx, Below W0.heap.size W0 wx → Calls Tryz.prog 56 #[.slice v.uo fu v.uc, .int .i64 (a : Int)] wx fun e w' => ∃ u, e = .returned u ∧ u.cells = #[u] ∧ IsTold w' (cf h.upF a) u ∧ Below wx.heap.size wx w') := fun wx hx => by
    have hh := (HX0.out.1.keep hx).upF
    rw [HL2.out.1, HF.out.1] at hh
    obtain ⟨fb, fo, e1, _, _⟩ := hh.cells (by omega)
    rw [HF.out.1]
    rw [e1] at hh ⊢
    refine (checkFirst_calls fb fo v.uc n a h.upF wx hh (by omega) (by omega)).mono ?_
    rintro e w' ⟨u, h1, h2, h3⟩
    exact ⟨u, h1, isE_cells (told_isE h2), h2, h3⟩
  have H2 : Hid (∀ wx, Below W0.heap.size W0 wx → Calls Tryz.prog 56 #[.slice v.wo fd v.wc, .int .i64 (b : Int)] wx fun e w' => ∃ u, e = .returned u ∧ u.cells = #[u] ∧ IsTold w' (cf h.dnF b) u ∧ Below wx.heap.size wx w') := fun wx hx => by
    have hh := (HX0.out.1.keep hx).dnF
    rw [HL2.out.2, HF.out.2] at hh
    obtain ⟨fb, fo, e1, _, _⟩ := hh.cells (by omega)
    rw [HF.out.2]
    rw [e1] at hh ⊢
    refine (checkFirst_calls fb fo v.wc n b h.dnF wx hh (by omega) (by omega)).mono ?_
    rintro e w' ⟨u, h1, h2, h3⟩
    exact ⟨u, h1, isE_cells (told_isE h2), h2, h3⟩
  have H3 : Hid (∀ wx, Below W0.heap.size W0 wx → Calls Tryz.prog 57 #[.slice v.no n v.nc] wx fun e w' => ∃ u, e = .returned u ∧ u.cells = #[u] ∧ IsTold w' (cn h.node) u ∧ Below wx.heap.size wx w') := fun wx hx => by
    have hh := (HX0.out.1.keep hx).node
    rw [HL.out.1] at hh
    refine (checkNodes_calls v.no v.nc n h.node wx hh (by omega)).mono ?_
    rintro e w' ⟨u, h1, h2, h3⟩
    exact ⟨u, h1, isE_cells (told_isE h2), h2, h3⟩
  go_enter Tryz.func31, Tryz.ntmps31
  go_upto_region 1 with fail
  rw [HW0.out]
  go_upto_region 6 with fail
  go_cut [4] (fun c wx => IsTold wx (orE (cf h.upF a) (orE (cf h.dnF b) (cn h.node))) c ∧ Below W0.heap.size W0 wx)
  case first =>
    by_cases g1 : cf h.upF a = (0, [])
    · by_cases g2 : cf h.dnF b = (0, [])
      · by_cases g3 : cn h.node = (0, [])
        · have G1 : Hid (∀ wx, Below W0.heap.size W0 wx → Calls Tryz.prog 56 #[.slice v.uo fu v.uc, .int .i64 (a : Int)] wx fun e w' => e = .returned .nilIface ∧ IsTold w' (cf h.upF a) .nilIface ∧ Below wx.heap.size wx w') := fun wx hx => (H1.out wx hx).mono fun e w' ⟨u, h1, _, h3, h4⟩ => by rw [g1] at h3; have e0 := isTold_nil h3; subst e0; exact ⟨h1, by rw [g1]; exact h3, h4⟩
          have G2 : Hid (∀ wx, Below W0.heap.size W0 wx → Calls Tryz.prog 56 #[.slice v.wo fd v.wc, .int .i64 (b : Int)] wx fun e w' => e = .returned .nilIface ∧ IsTold w' (cf h.dnF b) .nilIface ∧ Below wx.heap.size wx w') := fun wx hx => (H2.out wx hx).mono fun e w' ⟨u, h1, _, h3, h4⟩ => by rw [g2] at h3; have e0 := isTold_nil h3; subst e0; exact ⟨h1, by rw [g2]; exact h3, h4⟩
          have G3 : Hid (∀ wx, Below W0.heap.size W0 wx → Calls Tryz.prog 57 #[.slice v.no n v.nc] wx fun e w' => e = .returned .nilIface ∧ IsTold w' (cn h.node) .nilIface ∧ Below wx.heap.size wx w') := fun wx hx => (H3.out wx hx).mono fun e w' ⟨u, h1, _, h3, h4⟩ => by rw [g3] at h3; have e0 := isTold_nil h3; subst e0; exact ⟨h1, by rw [g3]; exact h3, h4⟩
          clear H1 H2 H3 g1 g2 g3
          go_region_held3 (fun w' => w'.cell? ⟨w.heap.size, 0, none⟩ = some (.slice v.no n v.nc) ∧ w'.cell? ⟨w.heap.size, 1, none⟩ = some (.slice v.uo fu v.uc) ∧ w'.cell? ⟨w.heap.size, 2, none⟩ = some (.slice v.ul a v.ulc) ∧ w'.cell? ⟨w.heap.size, 3, none⟩ = some (.slice v.wo fd v.wc) ∧ w'.cell? ⟨w.heap.size, 4, none⟩ = some (.slice v.dl b v.dlc)) (first
            | (exact HKS.out _ (by first | assumption | (with_reducible exact (Below.refl _ _).drew) | (with_reducible exact Below.alloc (by assumption) (by have := Below.size (by assumption); omega) _)))
            | go_keep) (first
            | (go_at_call 56; (with_reducible refine (G1.out _ (by first | (with_reducible exact (Below.refl _ _).drew) | assumption)).mono ?_); clear G1; rintro e wa ⟨rfl, hta, hba'⟩; have hba : Below W0.heap.size W0 wa := (Below.refl _ _).drew.trans (hba'.mono (Nat.le_refl _)); have HTA : Hid (IsTold wa (cf h.upF a) .nilIface) := hta; clear hta hba')
            | (go_at_call 56; (with_reducible refine (G2.out _ (by first | (with_reducible exact (Below.refl _ _).drew) | assumption)).mono ?_); clear G2; rintro e wb ⟨rfl, htb, hbb'⟩; have hbb : Below W0.heap.size W0 wb := hba.trans (hbb'.mono hba.size); have HTB : Hid (IsTold wb (cf h.dnF b) .nilIface ∧ IsTold wb (cf h.upF a) .nilIface) := ⟨htb, HTA.out.keep (Below.keeps hbb')⟩; clear htb hbb' hba)
            | (go_at_call 57; (with_reducible refine (G3.out _ (by first | (with_reducible exact (Below.refl _ _).drew) | assumption)).mono ?_); clear G3; rintro e wc ⟨rfl, htc, hbc'⟩; have hbc : Below W0.heap.size W0 wc := hbb.trans (hbc'.mono hbb.size); have HTC : Hid (IsTold wc (cn h.node) .nilIface ∧ IsTold wc (cf h.dnF b) .nilIface ∧ IsTold wc (cf h.upF a) .nilIface) := ⟨htc, HTB.out.1.keep (Below.keeps hbc'), HTB.out.2.keep (Below.keeps hbc')⟩; clear htc hbc' hbb)
            | (go_at_call 55; refine (first_three HTC.out.1 HTC.out.2.1 HTC.out.2.2).mono ?_; rintro e wd ⟨uv, rfl, htv, hbv⟩; have hbd : Below W0.heap.size W0 wd := hbc.trans (hbv.mono hbc.size); have HTV : Hid (IsTold wd (orE (cf h.upF a) (orE (cf h.dnF b) (cn h.node))) uv) := htv; clear htv hbv hbc))
          all_goals
            go_wp2_with fail
            go_meet
            exact ⟨HTV.out, hbd⟩
        · have G1 : Hid (∀ wx, Below W0.heap.size W0 wx → Calls Tryz.prog 56 #[.slice v.uo fu v.uc, .int .i64 (a : Int)] wx fun e w' => e = .returned .nilIface ∧ IsTold w' (cf h.upF a) .nilIface ∧ Below wx.heap.size wx w') := fun wx hx => (H1.out wx hx).mono fun e w' ⟨u, h1, _, h3, h4⟩ => by rw [g1] at h3; have e0 := isTold_nil h3; subst e0; exact ⟨h1, by rw [g1]; exact h3, h4⟩
          have G2 : Hid (∀ wx, Below W0.heap.size W0 wx → Calls Tryz.prog 56 #[.slice v.wo fd v.wc, .int .i64 (b : Int)] wx fun e w' => e = .returned .nilIface ∧ IsTold w' (cf h.dnF b) .nilIface ∧ Below wx.heap.size wx w') := fun wx hx => (H2.out wx hx).mono fun e w' ⟨u, h1, _, h3, h4⟩ => by rw [g2] at h3; have e0 := isTold_nil h3; subst e0; exact ⟨h1, by rw [g2]; exact h3, h4⟩
          have G3 : Hid (∀ wx, Below W0.heap.size W0 wx → Calls Tryz.prog 57 #[.slice v.no n v.nc] wx fun e w' => ∃ t x, e = .returned (.iface t x) ∧ IsTold w' (cn h.node) (.iface t x) ∧ Below wx.heap.size wx w') := fun wx hx => (H3.out wx hx).mono fun e w' ⟨u, h1, _, h3, h4⟩ => by obtain ⟨t, x, e0, _⟩ := isTold_some h3 g3; subst e0; exact ⟨t, x, h1, h3, h4⟩
          clear H1 H2 H3 g1 g2 g3
          go_region_held3 (fun w' => w'.cell? ⟨w.heap.size, 0, none⟩ = some (.slice v.no n v.nc) ∧ w'.cell? ⟨w.heap.size, 1, none⟩ = some (.slice v.uo fu v.uc) ∧ w'.cell? ⟨w.heap.size, 2, none⟩ = some (.slice v.ul a v.ulc) ∧ w'.cell? ⟨w.heap.size, 3, none⟩ = some (.slice v.wo fd v.wc) ∧ w'.cell? ⟨w.heap.size, 4, none⟩ = some (.slice v.dl b v.dlc)) (first
            | (exact HKS.out _ (by first | assumption | (with_reducible exact (Below.refl _ _).drew) | (with_reducible exact Below.alloc (by assumption) (by have := Below.size (by assumption); omega) _)))
            | go_keep) (first
            | (go_at_call 56; (with_reducible refine (G1.out _ (by first | (with_reducible exact (Below.refl _ _).drew) | assumption)).mono ?_); clear G1; rintro e wa ⟨rfl, hta, hba'⟩; have hba : Below W0.heap.size W0 wa := (Below.refl _ _).drew.trans (hba'.mono (Nat.le_refl _)); have HTA : Hid (IsTold wa (cf h.upF a) .nilIface) := hta; clear hta hba')
            | (go_at_call 56; (with_reducible refine (G2.out _ (by first | (with_reducible exact (Below.refl _ _).drew) | assumption)).mono ?_); clear G2; rintro e wb ⟨rfl, htb, hbb'⟩; have hbb : Below W0.heap.size W0 wb := hba.trans (hbb'.mono hba.size); have HTB : Hid (IsTold wb (cf h.dnF b) .nilIface ∧ IsTold wb (cf h.upF a) .nilIface) := ⟨htb, HTA.out.keep (Below.keeps hbb')⟩; clear htb hbb' hba)
            | (go_at_call 57; (with_reducible refine (G3.out _ (by first | (with_reducible exact (Below.refl _ _).drew) | assumption)).mono ?_); clear G3; rintro e wc ⟨tc, xc, rfl, htc, hbc'⟩; have hbc : Below W0.heap.size W0 wc := hbb.trans (hbc'.mono hbb.size); have HTC : Hid (IsTold wc (cn h.node) (.iface tc xc) ∧ IsTold wc (cf h.dnF b) .nilIface ∧ IsTold wc (cf h.upF a) .nilIface) := ⟨htc, HTB.out.1.keep (Below.keeps hbc'), HTB.out.2.keep (Below.keeps hbc')⟩; clear htc hbc' hbb)
            | (go_at_call 55; refine (first_three HTC.out.1 HTC.out.2.1 HTC.out.2.2).mono ?_; rintro e wd ⟨uv, rfl, htv, hbv⟩; have hbd : Below W0.heap.size W0 wd := hbc.trans (hbv.mono hbc.size); have HTV : Hid (IsTold wd (orE (cf h.upF a) (orE (cf h.dnF b) (cn h.node))) uv) := htv; clear htv hbv hbc))
          all_goals
            go_wp2_with fail
            go_meet
            exact ⟨HTV.out, hbd⟩
      · by_cases g3 : cn h.node = (0, [])
        · have G1 : Hid (∀ wx, Below W0.heap.size W0 wx → Calls Tryz.prog 56 #[.slice v.uo fu v.uc, .int .i64 (a : Int)] wx fun e w' => e = .returned .nilIface ∧ IsTold w' (cf h.upF a) .nilIface ∧ Below wx.heap.size wx w') := fun wx hx => (H1.out wx hx).mono fun e w' ⟨u, h1, _, h3, h4⟩ => by rw [g1] at h3; have e0 := isTold_nil h3; subst e0; exact ⟨h1, by rw [g1]; exact h3, h4⟩
          have G2 : Hid (∀ wx, Below W0.heap.size W0 wx → Calls Tryz.prog 56 #[.slice v.wo fd v.wc, .int .i64 (b : Int)] wx fun e w' => ∃ t x, e = .returned (.iface t x) ∧ IsTold w' (cf h.dnF b) (.iface t x) ∧ Below wx.heap.size wx w') := fun wx hx => (H2.out wx hx).mono fun e w' ⟨u, h1, _, h3, h4⟩ => by obtain ⟨t, x, e0, _⟩ := isTold_some h3 g2; subst e0; exact ⟨t, x, h1, h3, h4⟩
          have G3 : Hid (∀ wx, Below W0.heap.size W0 wx → Calls Tryz.prog 57 #[.slice v.no n v.nc] wx fun e w' => e = .returned .nilIface ∧ IsTold w' (cn h.node) .nilIface ∧ Below wx.heap.size wx w') := fun wx hx => (H3.out wx hx).mono fun e w' ⟨u, h1, _, h3, h4⟩ => by rw [g3] at h3; have e0 := isTold_nil h3; subst e0; exact ⟨h1, by rw [g3]; exact h3, h4⟩
          clear H1 H2 H3 g1 g2 g3
          go_region_held3 (fun w' => w'.cell? ⟨w.heap.size, 0, none⟩ = some (.slice v.no n v.nc) ∧ w'.cell? ⟨w.heap.size, 1, none⟩ = some (.slice v.uo fu v.uc) ∧ w'.cell? ⟨w.heap.size, 2, none⟩ = some (.slice v.ul a v.ulc) ∧ w'.cell? ⟨w.heap.size, 3, none⟩ = some (.slice v.wo fd v.wc) ∧ w'.cell? ⟨w.heap.size, 4, none⟩ = some (.slice v.dl b v.dlc)) (first
            | (exact HKS.out _ (by first | assumption | (with_reducible exact (Below.refl _ _).drew) | (with_reducible exact Below.alloc (by assumption) (by have := Below.size (by assumption); omega) _)))
            | go_keep) (first
            | (go_at_call 56; (with_reducible refine (G1.out _ (by first | (with_reducible exact (Below.refl _ _).drew) | assumption)).mono ?_); clear G1; rintro e wa ⟨rfl, hta, hba'⟩; have hba : Below W0.heap.size W0 wa := (Below.refl _ _).drew.trans (hba'.mono (Nat.le_refl _)); have HTA : Hid (IsTold wa (cf h.upF a) .nilIface) := hta; clear hta hba')
            | (go_at_call 56; (with_reducible refine (G2.out _ (by first | (with_reducible exact (Below.refl _ _).drew) | assumption)).mono ?_); clear G2; rintro e wb ⟨tb, xb, rfl, htb, hbb'⟩; have hbb : Below W0.heap.size W0 wb := hba.trans (hbb'.mono hba.size); have HTB : Hid (IsTold wb (cf h.dnF b) (.iface tb xb) ∧ IsTold wb (cf h.upF a) .nilIface) := ⟨htb, HTA.out.keep (Below.keeps hbb')⟩; clear htb hbb' hba)
            | (go_at_call 57; (with_reducible refine (G3.out _ (by first | (with_reducible exact (Below.refl _ _).drew) | assumption)).mono ?_); clear G3; rintro e wc ⟨rfl, htc, hbc'⟩; have hbc : Below W0.heap.size W0 wc := hbb.trans (hbc'.mono hbb.size); have HTC : Hid (IsTold wc (cn h.node) .nilIface ∧ IsTold wc (cf h.dnF b) (.iface tb xb) ∧ IsTold wc (cf h.upF a) .nilIface) := ⟨htc, HTB.out.1.keep (Below.keeps hbc'), HTB.out.2.keep (Below.keeps hbc')⟩; clear htc hbc' hbb)
            | (go_at_call 55; refine (first_three HTC.out.1 HTC.out.2.1 HTC.out.2.2).mono ?_; rintro e wd ⟨uv, rfl, htv, hbv⟩; have hbd : Below W0.heap.size W0 wd := hbc.trans (hbv.mono hbc.size); have HTV : Hid (IsTold wd (orE (cf h.upF a) (orE (cf h.dnF b) (cn h.node))) uv) := htv; clear htv hbv hbc))
          all_goals
            go_wp2_with fail
            go_meet
            exact ⟨HTV.out, hbd⟩
        · have G1 : Hid (∀ wx, Below W0.heap.size W0 wx → Calls Tryz.prog 56 #[.slice v.uo fu v.uc, .int .i64 (a : Int)] wx fun e w' => e = .returned .nilIface ∧ IsTold w' (cf h.upF a) .nilIface ∧ Below wx.heap.size wx w') := fun wx hx => (H1.out wx hx).mono fun e w' ⟨u, h1, _, h3, h4⟩ => by rw [g1] at h3; have e0 := isTold_nil h3; subst e0; exact ⟨h1, by rw [g1]; exact h3, h4⟩
          have G2 : Hid (∀ wx, Below W0.heap.size W0 wx → Calls Tryz.prog 56 #[.slice v.wo fd v.wc, .int .i64 (b : Int)] wx fun e w' => ∃ t x, e = .returned (.iface t x) ∧ IsTold w' (cf h.dnF b) (.iface t x) ∧ Below wx.heap.size wx w') := fun wx hx => (H2.out wx hx).mono fun e w' ⟨u, h1, _, h3, h4⟩ => by obtain ⟨t, x, e0, _⟩ := isTold_some h3 g2; subst e0; exact ⟨t, x, h1, h3, h4⟩
          have G3 : Hid (∀ wx, Below W0.heap.size W0 wx → Calls Tryz.prog 57 #[.slice v.no n v.nc] wx fun e w' => ∃ t x, e = .returned (.iface t x) ∧ IsTold w' (cn h.node) (.iface t x) ∧ Below wx.heap.size wx w') := fun wx hx => (H3.out wx hx).mono fun e w' ⟨u, h1, _, h3, h4⟩ => by obtain ⟨t, x, e0, _⟩ := isTold_some h3 g3; subst e0; exact ⟨t, x, h1, h3, h4⟩
          clear H1 H2 H3 g1 g2 g3
          go_region_held3 (fun w' => w'.cell? ⟨w.heap.size, 0, none⟩ = some (.slice v.no n v.nc) ∧ w'.cell? ⟨w.heap.size, 1, none⟩ = some (.slice v.uo fu v.uc) ∧ w'.cell? ⟨w.heap.size, 2, none⟩ = some (.slice v.ul a v.ulc) ∧ w'.cell? ⟨w.heap.size, 3, none⟩ = some (.slice v.wo fd v.wc) ∧ w'.cell? ⟨w.heap.size, 4, none⟩ = some (.slice v.dl b v.dlc)) (first
            | (exact HKS.out _ (by first | assumption | (with_reducible exact (Below.refl _ _).drew) | (with_reducible exact Below.alloc (by assumption) (by have := Below.size (by assumption); omega) _)))
            | go_keep) (first
            | (go_at_call 56; (with_reducible refine (G1.out _ (by first | (with_reducible exact (Below.refl _ _).drew) | assumption)).mono ?_); clear G1; rintro e wa ⟨rfl, hta, hba'⟩; have hba : Below W0.heap.size W0 wa := (Below.refl _ _).drew.trans (hba'.mono (Nat.le_refl _)); have HTA : Hid (IsTold wa (cf h.upF a) .nilIface) := hta; clear hta hba')
            | (go_at_call 56; (with_reducible refine (G2.out _ (by first | (with_reducible exact (Below.refl _ _).drew) | assumption)).mono ?_); clear G2; rintro e wb ⟨tb, xb, rfl, htb, hbb'⟩; have hbb : Below W0.heap.size W0 wb := hba.trans (hbb'.mono hba.size); have HTB : Hid (IsTold wb (cf h.dnF b) (.iface tb xb) ∧ IsTold wb (cf h.upF a) .nilIface) := ⟨htb, HTA.out.keep (Below.keeps hbb')⟩; clear htb hbb' hba)
            | (go_at_call 57; (with_reducible refine (G3.out _ (by first | (with_reducible exact (Below.refl _ _).drew) | assumption)).mono ?_); clear G3; rintro e wc ⟨tc, xc, rfl, htc, hbc'⟩; have hbc : Below W0.heap.size W0 wc := hbb.trans (hbc'.mono hbb.size); have HTC : Hid (IsTold wc (cn h.node) (.iface tc xc) ∧ IsTold wc (cf h.dnF b) (.iface tb xb) ∧ IsTold wc (cf h.upF a) .nilIface) := ⟨htc, HTB.out.1.keep (Below.keeps hbc'), HTB.out.2.keep (Below.keeps hbc')⟩; clear htc hbc' hbb)
            | (go_at_call 55; refine (first_three HTC.out.1 HTC.out.2.1 HTC.out.2.2).mono ?_; rintro e wd ⟨uv, rfl, htv, hbv⟩; have hbd : Below W0.heap.size W0 wd := hbc.trans (hbv.mono hbc.size); have HTV : Hid (IsTold wd (orE (cf h.upF a) (orE (cf h.dnF b) (cn h.node))) uv) := htv; clear htv hbv hbc))
          all_goals
            go_wp2_with fail
            go_meet
            exact ⟨HTV.out, hbd⟩
    · by_cases g2 : cf h.dnF b = (0, [])
      · by_cases g3 : cn h.node = (0, [])
        · have G1 : Hid (∀ wx, Below W0.heap.size W0 wx → Calls Tryz.prog 56 #[.slice v.uo fu v.uc, .int .i64 (a : Int)] wx fun e w' => ∃ t x, e = .returned (.iface t x) ∧ IsTold w' (cf h.upF a) (.iface t x) ∧ Below wx.heap.size wx w') := fun wx hx => (H1.out wx hx).mono fun e w' ⟨u, h1, _, h3, h4⟩ => by obtain ⟨t, x, e0, _⟩ := isTold_some h3 g1; subst e0; exact ⟨t, x, h1, h3, h4⟩
          have G2 : Hid (∀ wx, Below W0.heap.size W0 wx → Calls Tryz.prog 56 #[.slice v.wo fd v.wc, .int .i64 (b : Int)] wx fun e w' => e = .returned .nilIface ∧ IsTold w' (cf h.dnF b) .nilIface ∧ Below wx.heap.size wx w') := fun wx hx => (H2.out wx hx).mono fun e w' ⟨u, h1, _, h3, h4⟩ => by rw [g2] at h3; have e0 := isTold_nil h3; subst e0; exact ⟨h1, by rw [g2]; exact h3, h4⟩
          have G3 : Hid (∀ wx, Below W0.heap.size W0 wx → Calls Tryz.prog 57 #[.slice v.no n v.nc] wx fun e w' => e = .returned .nilIface ∧ IsTold w' (cn h.node) .nilIface ∧ Below wx.heap.size wx w') := fun wx hx => (H3.out wx hx).mono fun e w' ⟨u, h1, _, h3, h4⟩ => by rw [g3] at h3; have e0 := isTold_nil h3; subst e0; exact ⟨h1, by rw [g3]; exact h3, h4⟩
          clear H1 H2 H3 g1 g2 g3
          go_region_held3 (fun w' => w'.cell? ⟨w.heap.size, 0, none⟩ = some (.slice v.no n v.nc) ∧ w'.cell? ⟨w.heap.size, 1, none⟩ = some (.slice v.uo fu v.uc) ∧ w'.cell? ⟨w.heap.size, 2, none⟩ = some (.slice v.ul a v.ulc) ∧ w'.cell? ⟨w.heap.size, 3, none⟩ = some (.slice v.wo fd v.wc) ∧ w'.cell? ⟨w.heap.size, 4, none⟩ = some (.slice v.dl b v.dlc)) (first
            | (exact HKS.out _ (by first | assumption | (with_reducible exact (Below.refl _ _).drew) | (with_reducible exact Below.alloc (by assumption) (by have := Below.size (by assumption); omega) _)))
            | go_keep) (first
            | (go_at_call 56; (with_reducible refine (G1.out _ (by first | (with_reducible exact (Below.refl _ _).drew) | assumption)).mono ?_); clear G1; rintro e wa ⟨ta, xa, rfl, hta, hba'⟩; have hba : Below W0.heap.size W0 wa := (Below.refl _ _).drew.trans (hba'.mono (Nat.le_refl _)); have HTA : Hid (IsTold wa (cf h.upF a) (.iface ta xa)) := hta; clear hta hba')
            | (go_at_call 56; (with_reducible refine (G2.out _ (by first | (with_reducible exact (Below.refl _ _).drew) | assumption)).mono ?_); clear G2; rintro e wb ⟨rfl, htb, hbb'⟩; have hbb : Below W0.heap.size W0 wb := hba.trans (hbb'.mono hba.size); have HTB : Hid (IsTold wb (cf h.dnF b) .nilIface ∧ IsTold wb (cf h.upF a) (.iface ta xa)) := ⟨htb, HTA.out.keep (Below.keeps hbb')⟩; clear htb hbb' hba)
            | (go_at_call 57; (with_reducible refine (G3.out _ (by first | (with_reducible exact (Below.refl _ _).drew) | assumption)).mono ?_); clear G3; rintro e wc ⟨rfl, htc, hbc'⟩; have hbc : Below W0.heap.size W0 wc := hbb.trans (hbc'.mono hbb.size); have HTC : Hid (IsTold wc (cn h.node) .nilIface ∧ IsTold wc (cf h.dnF b) .nilIface ∧ IsTold wc (cf h.upF a) (.iface ta xa)) := ⟨htc, HTB.out.1.keep (Below.keeps hbc'), HTB.out.2.keep (Below.keeps hbc')⟩; clear htc hbc' hbb)
            | (go_at_call 55; refine (first_three HTC.out.1 HTC.out.2.1 HTC.out.2.2).mono ?_; rintro e wd ⟨uv, rfl, htv, hbv⟩; have hbd : Below W0.heap.size W0 wd := hbc.trans (hbv.mono hbc.size); have HTV : Hid (IsTold wd (orE (cf h.upF a) (orE (cf h.dnF b) (cn h.node))) uv) := htv; clear htv hbv hbc))
          all_goals
            go_wp2_with fail
            go_meet
            exact ⟨HTV.out, hbd⟩
        · have G1 : Hid (∀ wx, Below W0.heap.size W0 wx → Calls Tryz.prog 56 #[.slice v.uo fu v.uc, .int .i64 (a : Int)] wx fun e w' => ∃ t x, e = .returned (.iface t x) ∧ IsTold w' (cf h.upF a) (.iface t x) ∧ Below wx.heap.size wx w') := fun wx hx => (H1.out wx hx).mono fun e w' ⟨u, h1, _, h3, h4⟩ => by obtain ⟨t, x, e0, _⟩ := isTold_some h3 g1; subst e0; exact ⟨t, x, h1, h3, h4⟩
          have G2 : Hid (∀ wx, Below W0.heap.size W0 wx → Calls Tryz.prog 56 #[.slice v.wo fd v.wc, .int .i64 (b : Int)] wx fun e w' => e = .returned .nilIface ∧ IsTold w' (cf h.dnF b) .nilIface ∧ Below wx.heap.size wx w') := fun wx hx => (H2.out wx hx).mono fun e w' ⟨u, h1, _, h3, h4⟩ => by rw [g2] at h3; have e0 := isTold_nil h3; subst e0; exact ⟨h1, by rw [g2]; exact h3, h4⟩
          have G3 : Hid (∀ wx, Below W0.heap.size W0 wx → Calls Tryz.prog 57 #[.slice v.no n v.nc] wx fun e w' => ∃ t x, e = .returned (.iface t x) ∧ IsTold w' (cn h.node) (.iface t x) ∧ Below wx.heap.size wx w') := fun wx hx => (H3.out wx hx).mono fun e w' ⟨u, h1, _, h3, h4⟩ => by obtain ⟨t, x, e0, _⟩ := isTold_some h3 g3; subst e0; exact ⟨t, x, h1, h3, h4⟩
          clear H1 H2 H3 g1 g2 g3
          go_region_held3 (fun w' => w'.cell? ⟨w.heap.size, 0, none⟩ = some (.slice v.no n v.nc) ∧ w'.cell? ⟨w.heap.size, 1, none⟩ = some (.slice v.uo fu v.uc) ∧ w'.cell? ⟨w.heap.size, 2, none⟩ = some (.slice v.ul a v.ulc) ∧ w'.cell? ⟨w.heap.size, 3, none⟩ = some (.slice v.wo fd v.wc) ∧ w'.cell? ⟨w.heap.size, 4, none⟩ = some (.slice v.dl b v.dlc)) (first
            | (exact HKS.out _ (by first | assumption | (with_reducible exact (Below.refl _ _).drew) | (with_reducible exact Below.alloc (by assumption) (by have := Below.size (by assumption); omega) _)))
            | go_keep) (first
            | (go_at_call 56; (with_reducible refine (G1.out _ (by first | (with_reducible exact (Below.refl _ _).drew) | assumption)).mono ?_); clear G1; rintro e wa ⟨ta, xa, rfl, hta, hba'⟩; have hba : Below W0.heap.size W0 wa := (Below.refl _ _).drew.trans (hba'.mono (Nat.le_refl _)); have HTA : Hid (IsTold wa (cf h.upF a) (.iface ta xa)) := hta; clear hta hba')
            | (go_at_call 56; (with_reducible refine (G2.out _ (by first | (with_reducible exact (Below.refl _ _).drew) | assumption)).mono ?_); clear G2; rintro e wb ⟨rfl, htb, hbb'⟩; have hbb : Below W0.heap.size W0 wb := hba.trans (hbb'.mono hba.size); have HTB : Hid (IsTold wb (cf h.dnF b) .nilIface ∧ IsTold wb (cf h.upF a) (.iface ta xa)) := ⟨htb, HTA.out.keep (Below.keeps hbb')⟩; clear htb hbb' hba)
            | (go_at_call 57; (with_reducible refine (G3.out _ (by first | (with_reducible exact (Below.refl _ _).drew) | assumption)).mono ?_); clear G3; rintro e wc ⟨tc, xc, rfl, htc, hbc'⟩; have hbc : Below W0.heap.size W0 wc := hbb.trans (hbc'.mono hbb.size); have HTC : Hid (IsTold wc (cn h.node) (.iface tc xc) ∧ IsTold wc (cf h.dnF b) .nilIface ∧ IsTold wc (cf h.upF a) (.iface ta xa)) := ⟨htc, HTB.out.1.keep (Below.keeps hbc'), HTB.out.2.keep (Below.keeps hbc')⟩; clear htc hbc' hbb)
            | (go_at_call 55; refine (first_three HTC.out.1 HTC.out.2.1 HTC.out.2.2).mono ?_; rintro e wd ⟨uv, rfl, htv, hbv⟩; have hbd : Below W0.heap.size W0 wd := hbc.trans (hbv.mono hbc.size); have HTV : Hid (IsTold wd (orE (cf h.upF a) (orE (cf h.dnF b) (cn h.node))) uv) := htv; clear htv hbv hbc))
          all_goals
            go_wp2_with fail
            go_meet
            exact ⟨HTV.out, hbd⟩
      · by_cases g3 : cn h.node = (0, [])
        · have G1 : Hid (∀ wx, Below W0.heap.size W0 wx → Calls Tryz.prog 56 #[.slice v.uo fu v.uc, .int .i64 (a : Int)] wx fun e w' => ∃ t x, e = .returned (.iface t x) ∧ IsTold w' (cf h.upF a) (.iface t x) ∧ Below wx.heap.size wx w') := fun wx hx => (H1.out wx hx).mono fun e w' ⟨u, h1, _, h3, h4⟩ => by obtain ⟨t, x, e0, _⟩ := isTold_some h3 g1; subst e0; exact ⟨t, x, h1, h3, h4⟩
          have G2 : Hid (∀ wx, Below W0.heap.size W0 wx → Calls Tryz.prog 56 #[.slice v.wo fd v.wc, .int .i64 (b : Int)] wx fun e w' => ∃ t x, e = .returned (.iface t x) ∧ IsTold w' (cf h.dnF b) (.iface t x) ∧ Below wx.heap.size wx w') := fun wx hx => (H2.out wx hx).mono fun e w' ⟨u, h1, _, h3, h4⟩ => by obtain ⟨t, x, e0, _⟩ := isTold_some h3 g2; subst e0; exact ⟨t, x, h1, h3, h4⟩
          have G3 : Hid (∀ wx, Below W0.heap.size W0 wx → Calls Tryz.prog 57 #[.slice v.no n v.nc] wx fun e w' => e = .returned .nilIface ∧ IsTold w' (cn h.node) .nilIface ∧ Below wx.heap.size wx w') := fun wx hx => (H3.out wx hx).mono fun e w' ⟨u, h1, _, h3, h4⟩ => by rw [g3] at h3; have e0 := isTold_nil h3; subst e0; exact ⟨h1, by rw [g3]; exact h3, h4⟩
          clear H1 H2 H3 g1 g2 g3
          go_region_held3 (fun w' => w'.cell? ⟨w.heap.size, 0, none⟩ = some (.slice v.no n v.nc) ∧ w'.cell? ⟨w.heap.size, 1, none⟩ = some (.slice v.uo fu v.uc) ∧ w'.cell? ⟨w.heap.size, 2, none⟩ = some (.slice v.ul a v.ulc) ∧ w'.cell? ⟨w.heap.size, 3, none⟩ = some (.slice v.wo fd v.wc) ∧ w'.cell? ⟨w.heap.size, 4, none⟩ = some (.slice v.dl b v.dlc)) (first
            | (exact HKS.out _ (by first | assumption | (with_reducible exact (Below.refl _ _).drew) | (with_reducible exact Below.alloc (by assumption) (by have := Below.size (by assumption); omega) _)))
            | go_keep) (first
            | (go_at_call 56; (with_reducible refine (G1.out _ (by first | (with_reducible exact (Below.refl _ _).drew) | assumption)).mono ?_); clear G1; rintro e wa ⟨ta, xa, rfl, hta, hba'⟩; have hba : Below W0.heap.size W0 wa := (Below.refl _ _).drew.trans (hba'.mono (Nat.le_refl _)); have HTA : Hid (IsTold wa (cf h.upF a) (.iface ta xa)) := hta; clear hta hba')
            | (go_at_call 56; (with_reducible refine (G2.out _ (by first | (with_reducible exact (Below.refl _ _).drew) | assumption)).mono ?_); clear G2; rintro e wb ⟨tb, xb, rfl, htb, hbb'⟩; have hbb : Below W0.heap.size W0 wb := hba.trans (hbb'.mono hba.size); have HTB : Hid (IsTold wb (cf h.dnF b) (.iface tb xb) ∧ IsTold wb (cf h.upF a) (.iface ta xa)) := ⟨htb, HTA.out.keep (Below.keeps hbb')⟩; clear htb hbb' hba)
            | (go_at_call 57; (with_reducible refine (G3.out _ (by first | (with_reducible exact (Below.refl _ _).drew) | assumption)).mono ?_); clear G3; rintro e wc ⟨rfl, htc, hbc'⟩; have hbc : Below W0.heap.size W0 wc := hbb.trans (hbc'.mono hbb.size); have HTC : Hid (IsTold wc (cn h.node) .nilIface ∧ IsTold wc (cf h.dnF b) (.iface tb xb) ∧ IsTold wc (cf h.upF a) (.iface ta xa)) := ⟨htc, HTB.out.1.keep (Below.keeps hbc'), HTB.out.2.keep (Below.keeps hbc')⟩; clear htc hbc' hbb)
            | (go_at_call 55; refine (first_three HTC.out.1 HTC.out.2.1 HTC.out.2.2).mono ?_; rintro e wd ⟨uv, rfl, htv, hbv⟩; have hbd : Below W0.heap.size W0 wd := hbc.trans (hbv.mono hbc.size); have HTV : Hid (IsTold wd (orE (cf h.upF a) (orE (cf h.dnF b) (cn h.node))) uv) := htv; clear htv hbv hbc))
          all_goals
            go_wp2_with fail
            go_meet
            exact ⟨HTV.out, hbd⟩
        · have G1 : Hid (∀ wx, Below W0.heap.size W0 wx → Calls Tryz.prog 56 #[.slice v.uo fu v.uc, .int .i64 (a : Int)] wx fun e w' => ∃ t x, e = .returned (.iface t x) ∧ IsTold w' (cf h.upF a) (.iface t x) ∧ Below wx.heap.size wx w') := fun wx hx => (H1.out wx hx).mono fun e w' ⟨u, h1, _, h3, h4⟩ => by obtain ⟨t, x, e0, _⟩ := isTold_some h3 g1; subst e0; exact ⟨t, x, h1, h3, h4⟩
          have G2 : Hid (∀ wx, Below W0.heap.size W0 wx → Calls Tryz.prog 56 #[.slice v.wo fd v.wc, .int .i64 (b : Int)] wx fun e w' => ∃ t x, e = .returned (.iface t x) ∧ IsTold w' (cf h.dnF b) (.iface t x) ∧ Below wx.heap.size wx w') := fun wx hx => (H2.out wx hx).mono fun e w' ⟨u, h1, _, h3, h4⟩ => by obtain ⟨t, x, e0, _⟩ := isTold_some h3 g2; subst e0; exact ⟨t, x, h1, h3, h4⟩
          have G3 : Hid (∀ wx, Below W0.heap.size W0 wx → Calls Tryz.prog 57 #[.slice v.no n v.nc] wx fun e w' => ∃ t x, e = .returned (.iface t x) ∧ IsTold w' (cn h.node) (.iface t x) ∧ Below wx.heap.size wx w') := fun wx hx => (H3.out wx hx).mono fun e w' ⟨u, h1, _, h3, h4⟩ => by obtain ⟨t, x, e0, _⟩ := isTold_some h3 g3; subst e0; exact ⟨t, x, h1, h3, h4⟩
          clear H1 H2 H3 g1 g2 g3
          go_region_held3 (fun w' => w'.cell? ⟨w.heap.size, 0, none⟩ = some (.slice v.no n v.nc) ∧ w'.cell? ⟨w.heap.size, 1, none⟩ = some (.slice v.uo fu v.uc) ∧ w'.cell? ⟨w.heap.size, 2, none⟩ = some (.slice v.ul a v.ulc) ∧ w'.cell? ⟨w.heap.size, 3, none⟩ = some (.slice v.wo fd v.wc) ∧ w'.cell? ⟨w.heap.size, 4, none⟩ = some (.slice v.dl b v.dlc)) (first
            | (exact HKS.out _ (by first | assumption | (with_reducible exact (Below.refl _ _).drew) | (with_reducible exact Below.alloc (by assumption) (by have := Below.size (by assumption); omega) _)))
            | go_keep) (first
            | (go_at_call 56; (with_reducible refine (G1.out _ (by first | (with_reducible exact (Below.refl _ _).drew) | assumption)).mono ?_); clear G1; rintro e wa ⟨ta, xa, rfl, hta, hba'⟩; have hba : Below W0.heap.size W0 wa := (Below.refl _ _).drew.trans (hba'.mono (Nat.le_refl _)); have HTA : Hid (IsTold wa (cf h.upF a) (.iface ta xa)) := hta; clear hta hba')
            | (go_at_call 56; (with_reducible refine (G2.out _ (by first | (with_reducible exact (Below.refl _ _).drew) | assumption)).mono ?_); clear G2; rintro e wb ⟨tb, xb, rfl, htb, hbb'⟩; have hbb : Below W0.heap.size W0 wb := hba.trans (hbb'.mono hba.size); have HTB : Hid (IsTold wb (cf h.dnF b) (.iface tb xb) ∧ IsTold wb (cf h.upF a) (.iface ta xa)) := ⟨htb, HTA.out.keep (Below.keeps hbb')⟩; clear htb hbb' hba)
            | (go_at_call 57; (with_reducible refine (G3.out _ (by first | (with_reducible exact (Below.refl _ _).drew) | assumption)).mono ?_); clear G3; rintro e wc ⟨tc, xc, rfl, htc, hbc'⟩; have hbc : Below W0.heap.size W0 wc := hbb.trans (hbc'.mono hbb.size); have HTC : Hid (IsTold wc (cn h.node) (.iface tc xc) ∧ IsTold wc (cf h.dnF b) (.iface tb xb) ∧ IsTold wc (cf h.upF a) (.iface ta xa)) := ⟨htc, HTB.out.1.keep (Below.keeps hbc'), HTB.out.2.keep (Below.keeps hbc')⟩; clear htc hbc' hbb)
            | (go_at_call 55; refine (first_three HTC.out.1 HTC.out.2.1 HTC.out.2.2).mono ?_; rintro e wd ⟨uv, rfl, htv, hbv⟩; have hbd : Below W0.heap.size W0 wd := hbc.trans (hbv.mono hbc.size); have HTV : Hid (IsTold wd (orE (cf h.upF a) (orE (cf h.dnF b) (cn h.node))) uv) := htv; clear htv hbv hbc))
          all_goals
            go_wp2_with fail
            go_meet
            exact ⟨HTV.out, hbd⟩
  case rest =>
    obtain ⟨ht, hb⟩ := hcut
    by_cases hE : orE (cf h.upF a) (orE (cf h.dnF b) (cn h.node)) = (0, [])
    · rw [hE] at ht HC
      have hu4 := isTold_nil ht
      subst hu4
      have HC2 : Hid (chk h = cl n (stds h)) := by show _ = _; rw [HC.out, orE, if_pos rfl]
      obtain ⟨e1, e23⟩ := orE_ok.1 hE
      obtain ⟨e2, e3⟩ := orE_ok.1 e23
      have hl1 : 1 ≤ h.upF.length := by rw [HL2.out.1, HF.out.1]; omega
      have hl2 : 1 ≤ h.dnF.length := by rw [HL2.out.2, HF.out.2]; omega
      have hk1 := (cf_ok hl1).1 e1
      have hk2 := (cf_ok hl2).1 e2
      obtain ⟨k0, k1, k2, k3, k4⟩ := HKS.out wc hb
      have HLK : Hid (Calls Tryz.prog 58 #[.agg #[.slice v.no n v.nc, .slice v.uo fu v.uc, .slice v.ul a v.ulc, .slice v.wo fd v.wc, .slice v.dl b v.dlc]] wc fun e w' => ∃ u, e = .returned u ∧ IsTold w' (cl n (stds h)) u ∧ Below wc.heap.size wc w') := by
        have := checkLinks_calls v h wc (HX0.out.1.keep hb) (by rw [HL.out.1]; omega) (by rw [HL.out.2.1, HL.out.2.2]; omega) (by rw [HL.out.2.1]; exact hk1) (by rw [HL.out.2.2]; exact hk2) (by rw [HL2.out.1, HF.out.1, HL.out.1]) (by rw [HL2.out.2, HF.out.2, HL.out.1])
        unfold hvl at this
        rw [HL.out.1, HL.out.2.1, HL.out.2.2, HL2.out.1, HL2.out.2] at this
        exact this
      have HB : Hid (Below w.heap.size w wc) := HX0.out.2.trans (hb.mono (by omega))
      clear ht hb hE e1 e23 e2 e3 hl1 hl2 hk1 hk2 c0 c1 c2 c3 c4
      go_wp2_with (go_at_call 58; refine HLK.out.mono ?_; rintro e w9 ⟨u9, rfl, ht9, hb9⟩; have H9 : Hid (IsTold w9 (cl n (stds h)) u9 ∧ Below w.heap.size w w9) := ⟨ht9, HB.out.trans (hb9.mono HB.out.size)⟩; clear ht9 hb9)
      go_ret
      exact ⟨_, rfl, by rw [HC2.out]; exact H9.out.1, H9.out.2⟩
    · obtain ⟨t4, x4, hu4, _⟩ := isTold_some ht hE
      subst hu4
      have HC2 : Hid (chk h = orE (cf h.upF a) (orE (cf h.dnF b) (cn h.node))) := by show _ = _; rw [HC.out]; exact if_neg hE
      have HT : Hid (IsTold wc (orE (cf h.upF a) (orE (cf h.dnF b) (cn h.node))) (.iface t4 x4) ∧ Below w.heap.size w wc) := ⟨ht, HX0.out.2.trans (hb.mono (by omega))⟩
      clear ht hb hE c0 c1 c2 c3 c4
      go_wp2
      go_ret
      exact ⟨_, rfl, by rw [HC2.out]; exact HT.out.1, HT.out.2⟩
end Go.Proofs.YtodilocmfdeehaaGreatDoor.Hi
