/- viaductref10.DocCheck, at every hierarchy. -/
import Derived.Test.YtodilocmfdeehaaGreatDoorHdF
import Derived.Test.YtodilocmfdeehaaGreatDoorHdG
namespace Go.Proofs.YtodilocmfdeehaaGreatDoor.Hi
open Go.RowKit Go.Extern Go.Shelf

attribute [local go_sem] Oper.semAt_some

/-- viaductref10.link at any link. -/
theorem rlink_calls (v : HV) (h : Hr) (mo : Option Addr) (mc i : Nat) (w : World) (hH : HasH w v h) (hR : HasRk w (.slice mo (stds h).length mc) h) (hu : FOk h.upF h.up.length) (hd : FOk h.dnF h.dn.length) (hN : h.node.length ≤ 65536) (hL : h.up.length + h.dn.length ≤ 1048576) (hi : i < (stds h).length) :
    Calls Tryz.prog 51 #[hvl v h, .slice mo (stds h).length mc, .int .i64 (i : Int)] w fun e w' => RA w (if lerr h.node.length (stds h) i = 0 then ((0 : Int), ([] : List (Int × Int))) else (lerr h.node.length (stds h) i, [(4, (i : Int))])) e w' := by
  by_cases g1 : (rising (stds h) i = false ∨ (sd (stds h) i).lk.hd ≤ (sd (stds h) i).rk ∨ h.node.length ≤ (sd (stds h) i).lk.hd) ∨ (sd (stds h) i).lk.plain = true ∨ (stds h).length ≤ (sd (stds h) i).lk.lf ∨ (stds h).length ≤ (sd (stds h) i).lk.rt ∨ (sd (stds h) i).lk.lf < h.up.length ∨ h.up.length ≤ (sd (stds h) i).lk.rt
  · exact rlink_form v h mo mc i w hH hR hu hd hN hL hi g1
  · simp only [not_or] at g1
    exact rlink_deep v h mo mc i w hH hR hu hd hN hL hi ⟨by simp only [not_or]; exact g1.1, by simpa using g1.2.1, by omega, by omega, by omega, by omega⟩
theorem dc_res {W : World} {z : Nat} {x0 x1 : Value} {tmps : Array Value} (h1 : W.heap[z]? = some (.cells #[x0, x1] 36)) (t2 : tmps[2]?.getD undef = .pointer (some ⟨z, 0, none⟩)) :
    (results Tryz.f22 tmps).run Tryz.prog W = .ok (.agg #[x0, x1]) W := by
  have c0 : W.cell? ⟨z, 0, none⟩ = some x0 := by simp [World.cell?, h1]
  have c1 : W.cell? ⟨z, 1, none⟩ = some x1 := by simp [World.cell?, h1]
  simp [results, Tryz.results22, go_sem, t2, c0, c1]
theorem build_errs (c1 c2 : Int) (s1 s2 : Option Addr) (n1 n2 k1 k2 : Nat) (wx : World) : (Instr.buildSlice 100 2 #[(0, .agg #[.int .i64 c1, .slice s1 n1 k1]), (1, .agg #[.int .i64 c2, .slice s2 n2 k2])]).run Tryz.prog wx = .ok (.slice (some ⟨wx.heap.size, 0, none⟩) 2 2) (wx.alloc (.cells #[.int .i64 c1, .slice s1 n1 k1, .int .i64 c2, .slice s2 n2 k2] 36)) := by kernel_rfl
/-- places do not lie in a box of an error. -/
theorem pl_off {w : World} {b : Nat} {x : Int} {s1 : Option Addr} {s2 s3 k c : Nat} {lo : Option Addr} {T : TypeId} {ps : List (Int × Int)} (hz : w.heap[b]? = some (.cells #[.int .i64 x, .slice s1 s2 s3] T)) (hp : HasPlaces w (.slice lo k c) ps) (hne : ps ≠ []) : ∀ a, lo = some a → a.block ≠ b := by
  obtain ⟨ao, cap, e, hc⟩ := hp
  injection e with e1 _ _
  subst e1
  intro a ea eb
  obtain ⟨p, qs, rfl⟩ := List.exists_cons_of_ne_nil hne
  obtain ⟨b', off, e1, _, q0, q1⟩ := hc 0 p rfl
  rw [ea] at e1
  cases e1
  subst eb
  simp only [World.cell?, hz, Nat.zero_mul, Nat.add_zero] at q0 q1
  rcases off with _ | _ | off
  · simp at q1
  · simp at q0
  · simp at q0
theorem pl_sets {wx : World} {b : Nat} {x : Int} {s1 : Option Addr} {s2 s3 : Nat} {T : TypeId} {F : Int × List (Int × Int)} {fo : Option Addr} {fc : Nat} (hz : wx.heap[b]? = some (.cells #[.int .i64 x, .slice s1 s2 s3] T)) (hp : HasPlaces wx (.slice fo F.2.length fc) F.2) (u y : Value) : HasPlaces ((wx.setCell ⟨b, 0, none⟩ u).setCell ⟨b, 1, none⟩ y) (.slice fo F.2.length fc) F.2 := by
  by_cases hF : F.2 = []
  · rw [hF] at hp ⊢
    obtain ⟨ao, cap, e, _⟩ := hp
    exact ⟨ao, cap, e, fun j p hj => by simp at hj⟩
  · exact pl_far hp (by simp [World.setCell]) (fun j hj ⟨a, ea, eb⟩ => (Below.heap_setCell _ _ _ _ (by rw [← eb]; exact pl_off hz hp hF a ea)).trans (Below.heap_setCell _ _ _ _ (by rw [← eb]; exact pl_off hz hp hF a ea)))
theorem first_two {g : Nat} {E1 E2 : Int × List (Int × Int)} {l1 l2 : Option Addr} {k1 k2 : Nat} {T : TypeId} {w : World} (hg : w.heap[g]? = some (.cells #[.int .i64 E1.1, .slice l1 E1.2.length k1, .int .i64 E2.1, .slice l2 E2.2.length k2] T)) (h1 : HasPlaces w (.slice l1 E1.2.length k1) E1.2) (h2 : HasPlaces w (.slice l2 E2.2.length k2) E2.2) :
    Calls Tryz.prog 47 #[.slice (some ⟨g, 0, none⟩) 2 2] w fun e w' => RA w (orE E1 E2) e w' := by
  refine (rFirst_calls g 2 2 (fun k => if k = 0 then E1 else E2) (fun k => if k = 0 then l1 else l2) (fun k => if k = 0 then k1 else k2) w (by decide) (some_lt hg) ?_).mono ?_
  · intro k hk
    rcases k with _ | _ | k
    · exact ⟨by simp [World.cell?, hg], by simp [World.cell?, hg], h1⟩
    · exact ⟨by simp [World.cell?, hg], by simp [World.cell?, hg], h2⟩
    · omega
  · rintro e w' ⟨R, hR, hk⟩
    have e0 : R = orE E1 E2 := by
      unfold orE
      rcases hk with ⟨k, hk, hz, hn, rfl⟩ | ⟨hz, rfl⟩
      · rcases k with _ | _ | k
        · by_cases q : E1 = (0, [])
          · exact absurd (by simpa using q) hn
          · rw [if_neg q]; rfl
        · have q := hz 0 (by decide)
          simp only [if_true] at q
          rw [if_pos q]
          simp
        · omega
      · have q0 := hz 0 (by decide)
        have q1 := hz 1 (by decide)
        simp only [if_true] at q0
        simp only [Nat.one_ne_zero, if_false] at q1
        rw [if_pos q0, q1]
    rw [← e0]
    exact hR
theorem orE_zero (b : Int × List (Int × Int)) : orE (0, []) b = b := by simp [orE]
theorem orE_hit {a b : Int × List (Int × Int)} (h : a ≠ (0, [])) : orE a b = a := by unfold orE; rw [if_neg h]
theorem orE_two (a b c : Int × List (Int × Int)) : orE a (orE b c) = orE (orE a b) c := by
  unfold orE
  by_cases h : a = (0, [])
  · simp only [h, if_true]
  · simp only [h, if_false]

set_option maxRecDepth 100000 in
set_option maxHeartbeats 8000000 in
theorem docCheck10_aux (no uo ul wo dl : Option Addr) (nc uc ulc wc dlc : Nat) (h : Hr) (w : World) (hH : HasH w ⟨no, uo, ul, wo, dl, nc, uc, ulc, wc, dlc⟩ h) (hb1 : h.up.length ≤ 1152921504606846976) (hb2 : h.dn.length ≤ 1152921504606846976) (hb3 : h.node.length ≤ 1152921504606846976) :
    Calls Tryz.prog 22 #[hvl ⟨no, uo, ul, wo, dl, nc, uc, ulc, wc, dlc⟩ h] w fun e w' => RA w (chk h) e w' := by
  obtain ⟨z, hz⟩ : ∃ z, w.heap.size = z := ⟨_, rfl⟩
  obtain ⟨W0, hW0⟩ : ∃ W0, (w.alloc (.cells (cellsH ⟨no, uo, ul, wo, dl, nc, uc, ulc, wc, dlc⟩ h) 25)).alloc (.cells #[.int .i64 0, .slice none 0 0] 36) = W0 := ⟨_, rfl⟩
  have hB0 : Below w.heap.size w W0 := by rw [← hW0]; exact ((Below.refl _ w).alloc (Nat.le_refl _) _).alloc (by simp) _
  have h0 : W0.heap[z]? = some (.cells (cellsH ⟨no, uo, ul, wo, dl, nc, uc, ulc, wc, dlc⟩ h) 25) := by
    rw [← hW0, ← hz]; exact (Below.heap_alloc _ _ _ (by simp)).trans (heap_newW _ _)
  have h1 : W0.heap[z + 1]? = some (.cells #[.int .i64 0, .slice none 0 0] 36) := by
    have g := heap_newW (w.alloc (.cells (cellsH ⟨no, uo, ul, wo, dl, nc, uc, ulc, wc, dlc⟩ h) 25)) (.cells #[.int .i64 0, .slice none 0 0] 36)
    rw [World.size_alloc, hW0, hz] at g
    exact g
  have HS0 : Hid (z + 1 < W0.heap.size) := some_lt h1
  have HQ : Hid (∀ wx, Below W0.heap.size W0 wx → (wx.cell? ⟨z, 0, none⟩ = some (.slice no h.node.length nc) ∧ wx.cell? ⟨z, 1, none⟩ = some (.slice uo h.upF.length uc) ∧ wx.cell? ⟨z, 2, none⟩ = some (.slice ul h.up.length ulc) ∧ wx.cell? ⟨z, 3, none⟩ = some (.slice wo h.dnF.length wc) ∧ wx.cell? ⟨z, 4, none⟩ = some (.slice dl h.dn.length dlc)) ∧ wx.heap[z + 1]? = some (.cells #[.int .i64 0, .slice none 0 0] 36) ∧ HasH wx ⟨no, uo, ul, wo, dl, nc, uc, ulc, wc, dlc⟩ h ∧ Below w.heap.size w wx) := fun wx hx => by
    have g := hB0.trans (hx.mono hB0.size)
    exact ⟨five_cells ((hx.block _ (some_lt h0)).trans h0), (hx.block _ (some_lt h1)).trans h1, hH.keep g, g⟩
  have HEND : Hid (∀ wx, Below W0.heap.size W0 wx → ∀ (F : Int × List (Int × Int)) (fo : Option Addr) (fc : Nat), HasPlaces wx (.slice fo F.2.length fc) F.2 → RA w F (.returned (.agg #[.int .i64 F.1, .slice fo F.2.length fc])) ((wx.setCell ⟨z + 1, 0, none⟩ (.int .i64 F.1)).setCell ⟨z + 1, 1, none⟩ (.slice fo F.2.length fc)) ∧ ((wx.setCell ⟨z + 1, 0, none⟩ (.int .i64 F.1)).setCell ⟨z + 1, 1, none⟩ (.slice fo F.2.length fc)).heap[z + 1]? = some (.cells #[.int .i64 F.1, .slice fo F.2.length fc] 36)) := fun wx hx F fo fc hp =>
    ⟨⟨fo, fc, rfl, pl_sets (HQ.out wx hx).2.1 hp _ _, ((HQ.out wx hx).2.2.2.setCell (p := ⟨z + 1, 0, none⟩) (by show w.heap.size ≤ z + 1; omega) _).setCell (p := ⟨z + 1, 1, none⟩) (by show w.heap.size ≤ z + 1; omega) _⟩, set_err (HQ.out wx hx).2.1 _ _⟩
  have HW0 : Hid ((w.alloc (.cells (cellsH ⟨no, uo, ul, wo, dl, nc, uc, ulc, wc, dlc⟩ h) 25)).alloc (.cells #[.int .i64 0, .slice none 0 0] 36) = W0) := hW0
  have HB0 : Hid (Below W0.heap.size W0 W0) := Below.refl _ _
  have HHH : Hid (∀ wx, Below W0.heap.size W0 wx → HasH wx ⟨no, uo, ul, wo, dl, nc, uc, ulc, wc, dlc⟩ h) := fun wx hx => (HQ.out wx hx).2.2.1
  have HHV : Hid (hvl ⟨no, uo, ul, wo, dl, nc, uc, ulc, wc, dlc⟩ h = hvl ⟨no, uo, ul, wo, dl, nc, uc, ulc, wc, dlc⟩ h) := rfl
  obtain ⟨c0, c1, c2, c3, c4⟩ := (HQ.out W0 (Below.refl _ _)).1
  clear hW0 h0 h1 hB0 hH
  unfold cellsH at HW0
  unfold hvl
  obtain ⟨n, hn⟩ : ∃ n, h.node.length = n := ⟨_, rfl⟩
  obtain ⟨a, ha⟩ : ∃ a, h.up.length = a := ⟨_, rfl⟩
  obtain ⟨b, hb⟩ : ∃ b, h.dn.length = b := ⟨_, rfl⟩
  have HC : Hid (chk h = if 65536 < n ∨ 1048576 < a + b then (9, []) else if h.upF.length ≠ n + 1 ∨ h.dnF.length ≠ n + 1 then (14, []) else orE (cf h.upF a) (orE (cf h.dnF b) (orE (cn h.node) (cl n (stds h))))) := by show _ = _; rw [chk, hn, ha, hb]
  have HL : Hid (h.node.length = n ∧ h.up.length = a ∧ h.dn.length = b) := ⟨hn, ha, hb⟩
  rw [hn] at c0 HQ hb3 HW0 ⊢
  rw [ha] at c2 HQ hb1 HW0 ⊢
  rw [hb] at c4 HQ hb2 HW0 ⊢
  clear hn ha hb
  have wab : IntKind.i64.wrap ((a : Int) + (b : Int)) = (a : Int) + (b : Int) := by rw [IntKind.wrap_i64]; omega
  have wn1 : IntKind.i64.wrap ((n : Int) + 1) = (n : Int) + 1 := by rw [IntKind.wrap_i64]; omega
  by_cases hn : 65536 < n
  · have d1 : decide ((n : Int) > 65536) = true := by simp; omega
    have d1x : decide ((65536 : Int) < n) = true := by simp; omega
    have d2 : decide (65536 < n) = true := by simp; omega
    go_enter Tryz.func22, Tryz.ntmps22
    go_upto_region 1 with fail
    rw [HW0.out]
    go_wp2_with fail
    refine (E_calls 9 W0).mono ?_
    rintro e w1 ⟨rfl, hb9⟩
    have HB1 : Hid (Below W0.heap.size W0 w1) := hb9
    clear hb9
    obtain ⟨d0, d1', f0, f1⟩ := cell_two (HQ.out w1 HB1.out).2.1
    go_wp2
    obtain ⟨r1, r2⟩ := HEND.out w1 HB1.out (9, []) none 0 (pl_nil _)
    exact bodyPost_ret (dc_res r2 rfl) rfl (by rw [HC.out, if_pos (Or.inl hn)]; exact r1)
  have d1 : decide ((n : Int) > 65536) = false := by simp; omega
  have d1x : decide ((65536 : Int) < n) = false := by simp; omega
  have d2 : decide (65536 < n) = false := by simp; omega
  by_cases hab : 1048576 < a + b
  · have d3 : decide ((a : Int) + (b : Int) > 1048576) = true := by simp; omega
    have d3x : decide ((1048576 : Int) < (a : Int) + (b : Int)) = true := by simp; omega
    go_enter Tryz.func22, Tryz.ntmps22
    go_upto_region 1 with fail
    rw [HW0.out]
    go_wp2_with fail
    refine (E_calls 9 W0).mono ?_
    rintro e w1 ⟨rfl, hb9⟩
    have HB1 : Hid (Below W0.heap.size W0 w1) := hb9
    clear hb9
    obtain ⟨d0, d1', f0, f1⟩ := cell_two (HQ.out w1 HB1.out).2.1
    go_wp2
    obtain ⟨r1, r2⟩ := HEND.out w1 HB1.out (9, []) none 0 (pl_nil _)
    exact bodyPost_ret (dc_res r2 rfl) rfl (by rw [HC.out, if_pos (Or.inr hab)]; exact r1)
  have d3 : decide ((a : Int) + (b : Int) > 1048576) = false := by simp; omega
  have d3x : decide ((1048576 : Int) < (a : Int) + (b : Int)) = false := by simp; omega
  rw [if_neg (by simp only [not_or]; exact ⟨hn, hab⟩)] at HC
  obtain ⟨fu, hfu⟩ : ∃ fu, h.upF.length = fu := ⟨_, rfl⟩
  obtain ⟨fd, hfd⟩ : ∃ fd, h.dnF.length = fd := ⟨_, rfl⟩
  have HL2 : Hid (h.upF.length = fu ∧ h.dnF.length = fd) := ⟨hfu, hfd⟩
  rw [hfu] at c1 HQ HC HW0 ⊢
  rw [hfd] at c3 HQ HC HW0 ⊢
  clear hfu hfd
  by_cases hf1 : ¬ fu = n + 1
  · have d4 : ((fu : Int) != (n : Int) + 1) = true := by simp; omega
    go_enter Tryz.func22, Tryz.ntmps22
    go_upto_region 1 with fail
    rw [HW0.out]
    go_wp2_with fail
    refine (E_calls 14 W0).mono ?_
    rintro e w1 ⟨rfl, hb9⟩
    have HB1 : Hid (Below W0.heap.size W0 w1) := hb9
    clear hb9
    obtain ⟨d0, d1', f0, f1⟩ := cell_two (HQ.out w1 HB1.out).2.1
    go_wp2
    obtain ⟨r1, r2⟩ := HEND.out w1 HB1.out (14, []) none 0 (pl_nil _)
    exact bodyPost_ret (dc_res r2 rfl) rfl (by rw [HC.out, if_pos (Or.inl hf1)]; exact r1)
  have hf1 : fu = n + 1 := by omega
  have d4 : ((fu : Int) != (n : Int) + 1) = false := by simp; omega
  by_cases hf2 : ¬ fd = n + 1
  · have d5 : ((fd : Int) != (n : Int) + 1) = true := by simp; omega
    have HF2 : Hid (¬ fd = n + 1) := hf2
    clear hf1 hf2
    go_enter Tryz.func22, Tryz.ntmps22
    go_upto_region 1 with fail
    rw [HW0.out]
    go_wp2_with fail
    refine (E_calls 14 W0).mono ?_
    rintro e w1 ⟨rfl, hb9⟩
    have HB1 : Hid (Below W0.heap.size W0 w1) := hb9
    clear hb9
    obtain ⟨d0, d1', f0, f1⟩ := cell_two (HQ.out w1 HB1.out).2.1
    go_wp2
    obtain ⟨r1, r2⟩ := HEND.out w1 HB1.out (14, []) none 0 (pl_nil _)
    exact bodyPost_ret (dc_res r2 rfl) rfl (by rw [HC.out, if_pos (Or.inr HF2.out)]; exact r1)
  have hf2 : fd = n + 1 := by omega
  have d5 : ((fd : Int) != (n : Int) + 1) = false := by simp; omega
  rw [if_neg (by simp [hf1, hf2])] at HC
  have HF : Hid (fu = n + 1 ∧ fd = n + 1) := ⟨hf1, hf2⟩
  have HN : Hid (n ≤ 65536 ∧ a + b ≤ 1048576) := ⟨by omega, by omega⟩
  clear hf1 hf2
  have HC1 : Hid (∀ wx, Below W0.heap.size W0 wx → Calls Tryz.prog 48 #[.slice uo fu uc, .int .i64 (n : Int), .int .i64 (a : Int)] wx fun e w' => RA wx (cf h.upF a) e w') := fun wx hx => by
    have hh := (HHH.out wx hx).upF
    have q := firsts_calls uo uc n a h.upF wx hh (by rw [HL2.out.1]; exact HF.out.1) HN.out.1 (by omega)
    rw [HL2.out.1] at q
    exact q
  have HC2 : Hid (∀ wx, Below W0.heap.size W0 wx → Calls Tryz.prog 48 #[.slice wo fd wc, .int .i64 (n : Int), .int .i64 (b : Int)] wx fun e w' => RA wx (cf h.dnF b) e w') := fun wx hx => by
    have hh := (HHH.out wx hx).dnF
    have q := firsts_calls wo wc n b h.dnF wx hh (by rw [HL2.out.2]; exact HF.out.2) HN.out.1 (by omega)
    rw [HL2.out.2] at q
    exact q
  obtain ⟨EA, hEA⟩ : ∃ E, cf h.upF a = E := ⟨_, rfl⟩
  obtain ⟨EB, hEB⟩ : ∃ E, cf h.dnF b = E := ⟨_, rfl⟩
  obtain ⟨EC, hEC⟩ : ∃ E, orE EA EB = E := ⟨_, rfl⟩
  have HEA : Hid (cf h.upF a = EA) := hEA
  have HEB : Hid (cf h.dnF b = EB) := hEB
  have HEC : Hid (orE EA EB = EC) := hEC
  have HCE : Hid (chk h = orE EC (orE (cn h.node) (cl n (stds h)))) := by show _ = _; rw [HC.out, orE_two, hEA, hEB, hEC]
  clear hEA hEB hEC
  go_enter Tryz.func22, Tryz.ntmps22
  go_upto_region 1 with fail
  rw [HW0.out]
  go_wp2_with fail
  rename_i K6 aK6
  have KEY6 : ∀ (b11 b12 b13 b14 b15 b16 b17 b18 b19 b20 b21 b22 b23 b24 b25 b26 b27 b28 b29 b30 b31 b32 b33 b34 b35 b36 b37 b38 b39 b40 b41 b42 b43 b44 b45 b46 b47 b48 b49 b50 b51 b52 b53 b54 b55 b56 b57 b58 b59 : Value) (q : Nat) (l3 : Option Addr) (k3 : Nat) (WX : World), Hid (WX.heap[q]? = some (.cells #[.int .i64 EC.1, .slice l3 EC.2.length k3] 36) ∧ HasPlaces WX (.slice l3 EC.2.length k3) EC.2 ∧ Below W0.heap.size W0 WX) → K6 { tmps := #[(.agg #[.slice no n nc, .slice uo fu uc, .slice ul a ulc, .slice wo fd wc, .slice dl b dlc]), (.pointer (some ⟨z, 0, none⟩)), (.pointer (some ⟨z + 1, 0, none⟩)), (.int .i64 (n : Int)), (.pointer (some ⟨q, 0, none⟩)), undef, undef, undef, undef, undef, undef, b11, b12, b13, b14, b15, b16, b17, b18, b19, b20, b21, b22, b23, b24, b25, b26, b27, b28, b29, b30, b31, b32, b33, b34, b35, b36, b37, b38, b39, b40, b41, b42, b43, b44, b45, b46, b47, b48, b49, b50, b51, b52, b53, b54, b55, b56, b57, b58, b59, undef, undef, undef, undef, undef, undef, undef, undef, undef, undef, undef, undef, undef, undef, undef, undef, undef, undef, undef, undef, undef, undef, undef, undef, undef, undef, undef, undef, undef, undef, undef, undef, undef, undef, undef, undef, undef, undef, undef, undef, undef, undef, undef, undef, undef, undef, undef], defers := [] } WX := by
    clear c0 c1 c2 c3 c4
    intro b11 b12 b13 b14 b15 b16 b17 b18 b19 b20 b21 b22 b23 b24 b25 b26 b27 b28 b29 b30 b31 b32 b33 b34 b35 b36 b37 b38 b39 b40 b41 b42 b43 b44 b45 b46 b47 b48 b49 b50 b51 b52 b53 b54 b55 b56 b57 b58 b59 q l3 k3 WX HX
    refine aK6 _ _ ?_
    obtain ⟨q0, q1, _, _⟩ := cell_two HX.out.1
    go_wp2_with fail
    refine (bad_calls EC.1 l3 EC.2.length k3 WX).mono ?_
    rintro e wb ⟨rfl, hb9⟩
    rw [bad_iff]
    have HBW : Hid (Below W0.heap.size W0 wb) := btrH' HX.out.2.2 hb9
    have HXB : Hid (wb.heap[q]? = some (.cells #[.int .i64 EC.1, .slice l3 EC.2.length k3] 36) ∧ HasPlaces wb (.slice l3 EC.2.length k3) EC.2) := ⟨(hb9.block _ (some_lt HX.out.1)).trans HX.out.1, HX.out.2.1.keep hb9⟩
    clear hb9 q0 q1
    by_cases hE : EC = (0, [])
    · have j1 : decide (EC = (0, [])) = true := by simpa using hE
      have HOKs : Hid (FOk h.upF h.up.length ∧ FOk h.dnF h.dn.length) := by
        have q := hE
        rw [← HEC.out, orE_ok, ← HEA.out, ← HEB.out] at q
        exact ⟨by rw [HL.out.2.1]; exact (cf_ok (by rw [HL2.out.1, HF.out.1]; omega)).1 q.1, by rw [HL.out.2.2]; exact (cf_ok (by rw [HL2.out.2, HF.out.2]; omega)).1 q.2⟩
      have HC9 : Hid (chk h = orE (cn h.node) (cl n (stds h))) := by show _ = _; rw [HCE.out, hE, orE_zero]
      clear hE
      have hmk := run_make_row' (P := Tryz.prog) 101 4 (.bool false) 1 Tryz.underlying101 infoBo rfl .i64 .i64 n (by omega) (by omega)
      obtain ⟨sB, hsB⟩ : ∃ s, wb.heap.size = s := ⟨_, rfl⟩
      have HSB : Hid (W0.heap.size ≤ sB) := by rw [← hsB]; exact HBW.out.size
      obtain ⟨W9, hW9⟩ : ∃ W9, wb.alloc (.cells (madeCells #[.bool false] n) 4) = W9 := ⟨_, rfl⟩
      have HW9 : Hid (wb.alloc (.cells (madeCells #[.bool false] n) 4) = W9) := hW9
      have HS9 : Hid (SeenAt W9 sB n (h.node.take 0) ∧ Below W0.heap.size W0 W9) := by rw [← hW9, ← hsB]; exact ⟨seen_new wb n, HBW.out.alloc HBW.out.size _⟩
      clear hW9
      go_upto_region 10 with fail
      rw [HW9.out]
      clear HW9 hmk hsB
      obtain ⟨c0, c1, c2, c3, c4⟩ := (HQ.out W9 HS9.out.2).1
      go_wp2_with fail
      clear c0 c1 c2 c3 c4
      go_loopw [68] (fun iv wr => ∃ k : Nat, k ≤ n ∧ iv = .int .i64 k ∧ Hid (ferr 3 (cnF h.node) 0 n = ferr 3 (cnF h.node) k (n - k)) ∧ Hid (SeenAt wr sB n (h.node.take k)) ∧ Hid (Below W0.heap.size W0 wr)) (fun iv _ => n - (intOf iv).toNat)
      case atStart => exact ⟨0, by omega, rfl, rfl, HS9.out.1, HS9.out.2⟩
      case round =>
        obtain ⟨k, hk, rfl, HFE, HSe, HB⟩ := hrel
        rcases Nat.lt_or_eq_of_le hk with h1 | h1
        · have hnd := (HHH.out wr HB.out).node
          rw [HL.out.1] at hnd
          obtain ⟨nb, noff, e1, hbl, hc⟩ := hnd.cells (by omega)
          clear hnd
          subst e1
          have ck := hc k h1
          clear hc
          obtain ⟨x, hx⟩ : ∃ x, nth h.node k = x := ⟨_, rfl⟩
          have hx9 : x < 4294967296 := by rw [← hx]; exact (HHH.out wr HB.out).node.small k
          have y1 : IntKind.u64.wrap (x : Int) = (x : Int) := by rw [IntKind.wrap_u64]; omega
          have y2 : IntKind.u64.wrap (n : Int) = (n : Int) := by rw [IntKind.wrap_u64]; omega
          have y3 : IntKind.i64.wrap (x : Int) = (x : Int) := by rw [IntKind.wrap_i64]; omega
          have HX9 : Hid (cnF h.node k = if n ≤ x ∨ x ∈ h.node.take k then 20 else 0) := by show _ = _; unfold cnF; rw [hx, HL.out.1]
          have HT : Hid (h.node.take (k + 1) = h.node.take k ++ [x]) := by rw [← hx]; exact take_snoc (by rw [HL.out.1]; exact h1)
          rw [hx] at ck
          clear hx
          have q6 : decide ((k : Int) < (n : Int)) = true := by simp; omega
          have i2 : (0 : Int) ≤ (k : Int) := by omega
          have i3 : (k : Int) < (n : Int) := by omega
          have i4 : (0 : Int) ≤ (x : Int) := by omega
          by_cases hxn : n ≤ x
          · have d6 : decide ((x : Int) ≥ (n : Int)) = true := by simp; omega
            have d7 : decide (n ≤ x) = true := by simpa using hxn
            have HR : Hid (chk h = (20, [((3 : Int), (k : Int))])) := by
              show _ = _
              have hne : cnF h.node k ≠ 0 := by rw [HX9.out, if_pos (Or.inl hxn)]; decide
              rw [HC9.out, cn, HL.out.1, HFE.out, ferr_hit h1 hne, HX9.out, if_pos (Or.inl hxn)]
              exact orE_hit (by simp)
            go_wp2_with fail
            refine (E_calls 20 wr).mono ?_
            rintro e y1 ⟨rfl, hy1⟩
            have HY1 : Hid (Below W0.heap.size W0 y1) := btrH' HB.out hy1
            clear hy1
            go_wp2_with fail
            refine (refAt_calls 3 (k : Int) 20 y1).mono ?_
            rintro e y2 ⟨g, rfl, hg, hy2⟩
            have HY2 : Hid (Below W0.heap.size W0 y2) := btrH' HY1.out hy2
            have HG : Hid (HasPlaces y2 (.slice (some ⟨g, 0, none⟩) 1 1) [(3, (k : Int))]) := pl_one hg
            clear hy2 hg
            obtain ⟨d0, d1', f0, f1⟩ := cell_two (HQ.out y2 HY2.out).2.1
            go_wp2
            obtain ⟨r1, r2⟩ := HEND.out y2 HY2.out (20, [(3, (k : Int))]) (some ⟨g, 0, none⟩) 1 HG.out
            exact bodyPost_ret (dc_res r2 rfl) rfl (by rw [HR.out]; exact r1)
          have d6 : decide ((x : Int) ≥ (n : Int)) = false := by simp; omega
          have d7 : decide (n ≤ x) = false := by simpa using hxn
          have cs := HSe.out.cell x (by omega)
          have fs := HSe.out.free x
          have hxi : (x : Int) < (n : Int) := by omega
          by_cases hm : x ∈ h.node.take k
          · have HR : Hid (chk h = (20, [((3 : Int), (k : Int))])) := by
              show _ = _
              have hne : cnF h.node k ≠ 0 := by rw [HX9.out, if_pos (Or.inr hm)]; decide
              rw [HC9.out, cn, HL.out.1, HFE.out, ferr_hit h1 hne, HX9.out, if_pos (Or.inr hm)]
              exact orE_hit (by simp)
            rw [decide_eq_true hm] at cs
            clear hm
            go_wp2_with fail
            refine (E_calls 20 wr).mono ?_
            rintro e y1 ⟨rfl, hy1⟩
            have HY1 : Hid (Below W0.heap.size W0 y1) := btrH' HB.out hy1
            clear hy1
            go_wp2_with fail
            refine (refAt_calls 3 (k : Int) 20 y1).mono ?_
            rintro e y2 ⟨g, rfl, hg, hy2⟩
            have HY2 : Hid (Below W0.heap.size W0 y2) := btrH' HY1.out hy2
            have HG : Hid (HasPlaces y2 (.slice (some ⟨g, 0, none⟩) 1 1) [(3, (k : Int))]) := pl_one hg
            clear hy2 hg
            obtain ⟨d0, d1', f0, f1⟩ := cell_two (HQ.out y2 HY2.out).2.1
            go_wp2
            obtain ⟨r1, r2⟩ := HEND.out y2 HY2.out (20, [(3, (k : Int))]) (some ⟨g, 0, none⟩) 1 HG.out
            exact bodyPost_ret (dc_res r2 rfl) rfl (by rw [HR.out]; exact r1)
          · have HR : Hid (ferr 3 (cnF h.node) 0 n = ferr 3 (cnF h.node) (k + 1) (n - (k + 1))) := by
              show _ = _
              rw [HFE.out, ferr_step h1 (by rw [HX9.out, if_neg (by simp only [not_or]; exact ⟨hxn, hm⟩)])]
            have HN2 : Hid (SeenAt (wr.setCell ⟨sB, x, none⟩ (.bool true)) sB n (h.node.take (k + 1)) ∧ Below W0.heap.size W0 (wr.setCell ⟨sB, x, none⟩ (.bool true))) := ⟨by rw [HT.out]; exact HSe.out.set (by omega), HB.out.setCell (p := ⟨sB, x, none⟩) HSB.out _⟩
            rw [decide_eq_false hm] at cs
            clear hm
            go_wp2
            go_roundw
            case rel => exact ⟨k + 1, by omega, by simp, HR, HN2.out.1, HN2.out.2⟩
            case measure => simp [intOf]; omega
        · subst h1
          have HC10 : Hid (chk h = cl k (stds h)) := by
            show _ = _
            rw [HC9.out, cn, HL.out.1, HFE.out, ferr_end, orE_zero]
          have q6 : decide ((k : Int) < (k : Int)) = false := by simp
          obtain ⟨c0, c1, c2, c3, c4⟩ := (HQ.out wr HB.out).1
          have HRN : Hid (Calls Tryz.prog 50 #[(.agg #[.slice no k nc, .slice uo fu uc, .slice ul a ulc, .slice wo fd wc, .slice dl b dlc])] wr fun e w' => ∃ mo mc, e = .returned (.slice mo (stds h).length mc) ∧ HasRk w' (.slice mo (stds h).length mc) h ∧ Below wr.heap.size wr w') := by
            have q := ranksR_calls ⟨no, uo, ul, wo, dl, nc, uc, ulc, wc, dlc⟩ h wr (HHH.out wr HB.out) HOKs.out.1 HOKs.out.2 (by rw [HL2.out.1, HF.out.1]; have := HN.out.1; omega) (by rw [HL2.out.2, HF.out.2]; have := HN.out.1; omega) (by rw [HL.out.2.1, HL.out.2.2]; exact HN.out.2)
            unfold hvl at q
            rw [HL.out.1, HL.out.2.1, HL.out.2.2, HL2.out.1, HL2.out.2] at q
            refine q.mono ?_
            rintro e w' ⟨mo, mc, rfl, ho, hb⟩
            exact ⟨mo, mc, rfl, ⟨_, mo, mc, rfl, ho⟩, hb⟩
          go_wp2_with fail
          refine HRN.out.mono ?_
          rintro e w17 ⟨mo, mc, rfl, hrk, hb17⟩
          have HB17 : Hid (Below W0.heap.size W0 w17) := btrH' HB.out hb17
          have HRK : Hid (HasRk w17 (.slice mo (stds h).length mc) h) := hrk
          clear hb17 hrk c0 c1 c2 c3 c4 HRN
          have HLKC : Hid (∀ wx, Below w17.heap.size w17 wx → ∀ j, j < (stds h).length → Calls Tryz.prog 51 #[(.agg #[.slice no k nc, .slice uo fu uc, .slice ul a ulc, .slice wo fd wc, .slice dl b dlc]), .slice mo (stds h).length mc, .int .i64 (j : Int)] wx fun e w' => RA wx (if lerr k (stds h) j = 0 then ((0 : Int), ([] : List (Int × Int))) else (lerr k (stds h) j, [(4, (j : Int))])) e w') := fun wx hx j hj => by
            have q := rlink_calls ⟨no, uo, ul, wo, dl, nc, uc, ulc, wc, dlc⟩ h mo mc j wx (HHH.out wx (btrH' HB17.out hx)) (HRK.out.keep hx) HOKs.out.1 HOKs.out.2 (by rw [HL.out.1]; exact HN.out.1) (by rw [HL.out.2.1, HL.out.2.2]; exact HN.out.2) hj
            unfold hvl at q
            rw [HL.out.1, HL.out.2.1, HL.out.2.2, HL2.out.1, HL2.out.2] at q
            exact q
          obtain ⟨m, hm⟩ : ∃ m, (stds h).length = m := ⟨_, rfl⟩
          have HM : Hid ((stds h).length = m ∧ m ≤ 1048576) := ⟨hm, by have q := stds_len HOKs.out.1 HOKs.out.2; rw [HL.out.2.1, HL.out.2.2] at q; have := HN.out.2; omega⟩
          have hmb : m ≤ 1048576 := HM.out.2
          rw [hm] at HLKC ⊢
          clear hm
          have HCL : Hid (cl k (stds h) = ferr 4 (lerr k (stds h)) 0 (m - 0)) := by show _ = _; rw [cl, HM.out.1, Nat.sub_zero]
          go_wp2_with fail
          go_loopw [95] (fun iv wq => ∃ j : Nat, j ≤ m ∧ iv = .int .i64 j ∧ Hid (Below w17.heap.size w17 wq) ∧ Hid (cl k (stds h) = ferr 4 (lerr k (stds h)) j (m - j))) (fun iv _ => m - (intOf iv).toNat)
          case atStart => exact ⟨0, Nat.zero_le _, rfl, Below.refl _ _, HCL.out⟩
          case round =>
            obtain ⟨j, hj, rfl, HBJ, HCJ⟩ := hrel
            rcases Nat.lt_or_eq_of_le hj with h2 | h2
            · have qj : decide ((j : Int) < (m : Int)) = true := by simp; omega
              obtain ⟨Ek, hEk⟩ : ∃ E, (if lerr k (stds h) j = 0 then ((0 : Int), ([] : List (Int × Int))) else (lerr k (stds h) j, [(4, (j : Int))])) = E := ⟨_, rfl⟩
              have HEK : Hid ((if lerr k (stds h) j = 0 then ((0 : Int), ([] : List (Int × Int))) else (lerr k (stds h) j, [(4, (j : Int))])) = Ek) := hEk
              have HLJ := HLKC.out wr HBJ.out j h2
              rw [hEk] at HLJ
              have HLJH : Hid (type_of% HLJ) := HLJ
              clear HLJ hEk
              obtain ⟨c0, c1, c2, c3, c4⟩ := (HQ.out wr (btrH' HB17.out HBJ.out)).1
              go_wp2_with fail
              refine HLJH.out.mono ?_
              rintro e y1 ⟨lo, lc, rfl, hp, hy⟩
              have HY : Hid (Below w17.heap.size w17 y1) := btrH' HBJ.out hy
              have HPL : Hid (HasPlaces y1 (.slice lo Ek.2.length lc) Ek.2) := hp
              obtain ⟨bx, hbx⟩ : ∃ s, y1.heap.size = s := ⟨_, rfl⟩
              obtain ⟨W2, hW2⟩ : ∃ W2, y1.alloc (.cells #[.int .i64 Ek.1, .slice lo Ek.2.length lc] 36) = W2 := ⟨_, rfl⟩
              have HW2 : Hid (y1.alloc (.cells #[.int .i64 Ek.1, .slice lo Ek.2.length lc] 36) = W2) := hW2
              have HZ2 : Hid (∀ wx, Below W2.heap.size W2 wx → wx.heap[bx]? = some (.cells #[.int .i64 Ek.1, .slice lo Ek.2.length lc] 36) ∧ HasPlaces wx (.slice lo Ek.2.length lc) Ek.2 ∧ Below w17.heap.size w17 wx) := fun wx hx => by
                have q : W2.heap[bx]? = some (.cells #[.int .i64 Ek.1, .slice lo Ek.2.length lc] 36) := by rw [← hW2, ← hbx]; exact heap_newW _ _
                have qb : Below y1.heap.size y1 W2 := by rw [← hW2]; exact (Below.refl _ _).alloc (Nat.le_refl _) _
                exact ⟨(hx.block _ (some_lt q)).trans q, HPL.out.keep (btrH' qb hx), btrH' (btrH' HY.out qb) hx⟩
              clear hp hy hW2 c0 c1 c2 c3 c4 HLJH
              go_upto_region 22 with fail
              rw [HW2.out]
              clear HW2
              obtain ⟨p0, p1, _, _⟩ := cell_two (HZ2.out W2 (Below.refl _ _)).1
              go_wp2_with fail
              refine (bad_calls Ek.1 lo Ek.2.length lc W2).mono ?_
              rintro e y2 ⟨rfl, hb2'⟩
              rw [bad_iff]
              have HY2 : Hid (Below W2.heap.size W2 y2) := hb2'
              clear hb2' p0 p1
              by_cases hE : Ek = (0, [])
              · have j1 : decide (Ek = (0, [])) = true := by simpa using hE
                have HER : Hid (lerr k (stds h) j = 0) := by
                  show _ = _
                  have q := HEK.out
                  rw [hE] at q
                  by_cases g : lerr k (stds h) j = 0
                  · exact g
                  · rw [if_neg g] at q; simp at q
                have HST : Hid (cl k (stds h) = ferr 4 (lerr k (stds h)) (j + 1) (m - (j + 1))) := by show _ = _; rw [HCJ.out, ferr_step h2 HER.out]
                go_wp2
                go_roundw
                case rel => exact ⟨j + 1, by omega, by go_num, (HZ2.out y2 HY2.out).2.2, HST.out⟩
                case measure => simp [intOf]; omega
              · have j1 : decide (Ek = (0, [])) = false := by simpa using hE
                have HER : Hid (chk h = Ek) := by
                  show _ = _
                  have q := HEK.out
                  by_cases g : lerr k (stds h) j = 0
                  · rw [if_pos g] at q; exact absurd q.symm hE
                  · rw [if_neg g] at q
                    rw [HC10.out, HCJ.out, ferr_hit h2 g, q]
                obtain ⟨p0, p1, _, _⟩ := cell_two (HZ2.out y2 HY2.out).1
                obtain ⟨d0, d1', f0, f1⟩ := cell_two (HQ.out y2 (btrH' HB17.out (HZ2.out y2 HY2.out).2.2)).2.1
                go_wp2
                obtain ⟨r1, r2⟩ := HEND.out y2 (btrH' HB17.out (HZ2.out y2 HY2.out).2.2) Ek lo lc (HZ2.out y2 HY2.out).2.1
                exact bodyPost_ret (dc_res r2 rfl) rfl (by rw [HER.out]; exact r1)
            · subst h2
              have qj : decide ((j : Int) < (j : Int)) = false := by simp
              have HER : Hid (chk h = (0, [])) := by show _ = _; rw [HC10.out, HCJ.out, ferr_end]
              obtain ⟨d0, d1', f0, f1⟩ := cell_two (HQ.out wr (btrH' HB17.out HBJ.out)).2.1
              go_wp2
              obtain ⟨r1, r2⟩ := HEND.out wr (btrH' HB17.out HBJ.out) (0, []) none 0 (pl_nil _)
              exact bodyPost_ret (dc_res r2 rfl) rfl (by rw [HER.out]; exact r1)
    · have j1 : decide (EC = (0, [])) = false := by simpa using hE
      have HER : Hid (chk h = EC) := by show _ = _; rw [HCE.out]; exact orE_hit hE
      obtain ⟨q0, q1, _, _⟩ := cell_two HXB.out.1
      obtain ⟨d0, d1', f0, f1⟩ := cell_two (HQ.out wb HBW.out).2.1
      go_wp2
      obtain ⟨r1, r2⟩ := HEND.out wb HBW.out EC l3 k3 HXB.out.2
      exact bodyPost_ret (dc_res r2 rfl) rfl (by rw [HER.out]; exact r1)
  have HS6 : Hid (∀ wx, Below W0.heap.size W0 wx → (fun w' => w'.cell? ⟨z, 0, none⟩ = some (.slice no n nc) ∧ w'.cell? ⟨z, 1, none⟩ = some (.slice uo fu uc) ∧ w'.cell? ⟨z, 2, none⟩ = some (.slice ul a ulc) ∧ w'.cell? ⟨z, 3, none⟩ = some (.slice wo fd wc) ∧ w'.cell? ⟨z, 4, none⟩ = some (.slice dl b dlc) ∧ Hid (Below W0.heap.size W0 w')) wx) := fun wx hx => by
    obtain ⟨c0, c1, c2, c3, c4⟩ := (HQ.out wx hx).1
    exact ⟨c0, c1, c2, c3, c4, hx⟩
  clear c0 c1 c2 c3 c4
  refine wp_region_M (S := (fun w' => w'.cell? ⟨z, 0, none⟩ = some (.slice no n nc) ∧ w'.cell? ⟨z, 1, none⟩ = some (.slice uo fu uc) ∧ w'.cell? ⟨z, 2, none⟩ = some (.slice ul a ulc) ∧ w'.cell? ⟨z, 3, none⟩ = some (.slice wo fd wc) ∧ w'.cell? ⟨z, 4, none⟩ = some (.slice dl b dlc) ∧ Hid (Below W0.heap.size W0 w'))) (by kernel_rfl) (HS6.out _ (Below.refl _ _).drew) ?_
  refine wpAnyM_take (i := 0) (oi := ⟨some 44, .fieldAddr 25 (.tmp 1) 1, 0, "ref.go:115", #[], none⟩) (v := ?va0) rfl (by kernel_rfl) (by kernel_rfl) (by kernel_rfl) (fun _ _ _ h => h) (YieldsM.of_if (Or.inl ⟨by rfl, ?ha0⟩)) ?ra0
  case ha0 => ((intro wz hSw; (try dsimp only at hSw); go_simp); try (with_reducible rfl))
  try simp only [Act.put, List.setIfInBounds_toArray, List.set_cons_zero, List.set_cons_succ]
  refine wpAnyM_take (i := 1) (oi := ⟨some 45, .load 22 (.tmp 44), 22, "ref.go:115", #[⟨0, .data⟩], none⟩) (v := ?va1) rfl (by kernel_rfl) (by kernel_rfl) (by kernel_rfl) (fun _ _ _ h => h) (YieldsM.of_if (Or.inl ⟨by rfl, ?ha1⟩)) ?ra1
  case ha1 => ((intro wz hSw; (try dsimp only at hSw); go_simp); try (with_reducible rfl))
  try simp only [Act.put, List.setIfInBounds_toArray, List.set_cons_zero, List.set_cons_succ]
  refine wpAnyM_take (i := 2) (oi := ⟨some 46, .move (.tmp 3), 3, "ref.go:115", #[], none⟩) (v := ?va2) rfl (by kernel_rfl) (by kernel_rfl) (by kernel_rfl) (fun _ _ _ h => h) (YieldsM.of_if (Or.inl ⟨by rfl, ?ha2⟩)) ?ra2
  case ha2 => ((intro wz hSw; (try dsimp only at hSw); go_simp); try (with_reducible rfl))
  try simp only [Act.put, List.setIfInBounds_toArray, List.set_cons_zero, List.set_cons_succ]
  refine wpAnyM_take (i := 3) (oi := ⟨some 47, .fieldAddr 25 (.tmp 1) 2, 0, "ref.go:115", #[], none⟩) (v := ?va3) rfl (by kernel_rfl) (by kernel_rfl) (by kernel_rfl) (fun _ _ _ h => h) (YieldsM.of_if (Or.inl ⟨by rfl, ?ha3⟩)) ?ra3
  case ha3 => ((intro wz hSw; (try dsimp only at hSw); go_simp); try (with_reducible rfl))
  try simp only [Act.put, List.setIfInBounds_toArray, List.set_cons_zero, List.set_cons_succ]
  refine wpAnyM_take (i := 4) (oi := ⟨some 48, .load 23 (.tmp 47), 23, "ref.go:115", #[⟨3, .data⟩], none⟩) (v := ?va4) rfl (by kernel_rfl) (by kernel_rfl) (by kernel_rfl) (fun _ _ _ h => h) (YieldsM.of_if (Or.inl ⟨by rfl, ?ha4⟩)) ?ra4
  case ha4 => ((intro wz hSw; (try dsimp only at hSw); go_simp); try (with_reducible rfl))
  try simp only [Act.put, List.setIfInBounds_toArray, List.set_cons_zero, List.set_cons_succ]
  refine wpAnyM_take (i := 5) (oi := ⟨some 49, .call { callee := .builtin .len, args := #[.tmp 48], argTypes := #[23] }, 3, "ref.go:115", #[⟨4, .data⟩], none⟩) (v := ?va5) rfl (by kernel_rfl) (by kernel_rfl) (by kernel_rfl) (fun _ _ _ h => h) (YieldsM.of_if (Or.inl ⟨by rfl, ?ha5⟩)) ?ra5
  case ha5 => ((intro wz hSw; (try dsimp only at hSw); go_simp); try (with_reducible rfl))
  try simp only [Act.put, List.setIfInBounds_toArray, List.set_cons_zero, List.set_cons_succ]
  refine wpAnyM_take (i := 7) (oi := ⟨some 51, .fieldAddr 25 (.tmp 1) 3, 0, "ref.go:115", #[], none⟩) (v := ?va7) rfl (by kernel_rfl) (by kernel_rfl) (by kernel_rfl) (fun _ _ _ h => h) (YieldsM.of_if (Or.inl ⟨by rfl, ?ha7⟩)) ?ra7
  case ha7 => ((intro wz hSw; (try dsimp only at hSw); go_simp); try (with_reducible rfl))
  try simp only [Act.put, List.setIfInBounds_toArray, List.set_cons_zero, List.set_cons_succ]
  refine wpAnyM_take (i := 8) (oi := ⟨some 52, .load 22 (.tmp 51), 22, "ref.go:115", #[⟨7, .data⟩], none⟩) (v := ?va8) rfl (by kernel_rfl) (by kernel_rfl) (by kernel_rfl) (fun _ _ _ h => h) (YieldsM.of_if (Or.inl ⟨by rfl, ?ha8⟩)) ?ra8
  case ha8 => ((intro wz hSw; (try dsimp only at hSw); go_simp); try (with_reducible rfl))
  try simp only [Act.put, List.setIfInBounds_toArray, List.set_cons_zero, List.set_cons_succ]
  refine wpAnyM_take (i := 9) (oi := ⟨some 53, .move (.tmp 3), 3, "ref.go:115", #[], none⟩) (v := ?va9) rfl (by kernel_rfl) (by kernel_rfl) (by kernel_rfl) (fun _ _ _ h => h) (YieldsM.of_if (Or.inl ⟨by rfl, ?ha9⟩)) ?ra9
  case ha9 => ((intro wz hSw; (try dsimp only at hSw); go_simp); try (with_reducible rfl))
  try simp only [Act.put, List.setIfInBounds_toArray, List.set_cons_zero, List.set_cons_succ]
  refine wpAnyM_take (i := 10) (oi := ⟨some 54, .fieldAddr 25 (.tmp 1) 4, 0, "ref.go:115", #[], none⟩) (v := ?va10) rfl (by kernel_rfl) (by kernel_rfl) (by kernel_rfl) (fun _ _ _ h => h) (YieldsM.of_if (Or.inl ⟨by rfl, ?ha10⟩)) ?ra10
  case ha10 => ((intro wz hSw; (try dsimp only at hSw); go_simp); try (with_reducible rfl))
  try simp only [Act.put, List.setIfInBounds_toArray, List.set_cons_zero, List.set_cons_succ]
  refine wpAnyM_take (i := 11) (oi := ⟨some 55, .load 23 (.tmp 54), 23, "ref.go:115", #[⟨10, .data⟩], none⟩) (v := ?va11) rfl (by kernel_rfl) (by kernel_rfl) (by kernel_rfl) (fun _ _ _ h => h) (YieldsM.of_if (Or.inl ⟨by rfl, ?ha11⟩)) ?ra11
  case ha11 => ((intro wz hSw; (try dsimp only at hSw); go_simp); try (with_reducible rfl))
  try simp only [Act.put, List.setIfInBounds_toArray, List.set_cons_zero, List.set_cons_succ]
  refine wpAnyM_take (i := 12) (oi := ⟨some 56, .call { callee := .builtin .len, args := #[.tmp 55], argTypes := #[23] }, 3, "ref.go:115", #[⟨11, .data⟩], none⟩) (v := ?va12) rfl (by kernel_rfl) (by kernel_rfl) (by kernel_rfl) (fun _ _ _ h => h) (YieldsM.of_if (Or.inl ⟨by rfl, ?ha12⟩)) ?ra12
  case ha12 => ((intro wz hSw; (try dsimp only at hSw); go_simp); try (with_reducible rfl))
  try simp only [Act.put, List.setIfInBounds_toArray, List.set_cons_zero, List.set_cons_succ]
  have FA : Hid (∀ wx, Below W0.drew.heap.size W0.drew wx → (Below W0.heap.size W0 wx)) := fun wx hx => btrH' (Below.refl _ _).drew hx
  refine ready2M (i := 6) (j := 16) (oi := ⟨some 50, .call { callee := .value (.func 48), args := #[.tmp 45, .tmp 46, .tmp 49], argTypes := #[22, 3, 3] }, 36, "ref.go:115", #[⟨1, .data⟩, ⟨2, .data⟩, ⟨5, .data⟩], none⟩) (oj := ⟨some 4, .alloc 36, 0, "ref.go:115", #[], none⟩) rfl rfl (by kernel_rfl) ?_ ?_
  · intro u1 hg1 hS1 K hK
    have fB1 := FA.out u1 hg1
    clear hS1
    go_simp
    refine (HC1.out u1 fB1).mono ?_
    rintro e y1 ⟨l1, k1, rfl, hp1, hy1⟩
    rw [HEA.out] at hp1 ⊢
    go_wp2_with fail
    have F1c : Hid (∀ wx, Below y1.heap.size y1 wx → (Below W0.heap.size W0 wx) ∧ (HasPlaces wx (.slice l1 EA.2.length k1) EA.2)) := fun wx hx => ⟨(btrH' (btrH' fB1 hy1) hx), (HasPlaces.keep hp1 hx)⟩
    refine hK.out _ _ (HS6.out _ (F1c.out _ (Below.refl _ _)).1) ?_
    clear hK K FA
    try simp only [Act.put, List.setIfInBounds_toArray, List.set_cons_zero, List.set_cons_succ]
    refine ready2M (i := 13) (j := 16) (oi := ⟨some 57, .call { callee := .value (.func 48), args := #[.tmp 52, .tmp 53, .tmp 56], argTypes := #[22, 3, 3] }, 36, "ref.go:115", #[⟨8, .data⟩, ⟨9, .data⟩, ⟨12, .data⟩, ⟨6, .chain⟩], none⟩) (oj := ⟨some 4, .alloc 36, 0, "ref.go:115", #[], none⟩) rfl rfl (by kernel_rfl) ?_ ?_
    · intro u2 hg2 hS2 K hK
      obtain ⟨fB2, fP12⟩ := F1c.out u2 hg2
      clear hS2
      go_simp
      refine (HC2.out u2 fB2).mono ?_
      rintro e y2 ⟨l2, k2, rfl, hp2, hy2⟩
      rw [HEB.out] at hp2 ⊢
      go_wp2_with fail
      have F2c : Hid (∀ wx, Below y2.heap.size y2 wx → (Below W0.heap.size W0 wx) ∧ (HasPlaces wx (.slice l1 EA.2.length k1) EA.2) ∧ (HasPlaces wx (.slice l2 EB.2.length k2) EB.2)) := fun wx hx => ⟨(btrH' (btrH' fB2 hy2) hx), (HasPlaces.keep (HasPlaces.keep fP12 hy2) hx), (HasPlaces.keep hp2 hx)⟩
      refine hK.out _ _ (HS6.out _ (F2c.out _ (Below.refl _ _)).1) ?_
      clear hK K F1c
      try simp only [Act.put, List.setIfInBounds_toArray, List.set_cons_zero, List.set_cons_succ]
      refine ready2M (i := 14) (j := 16) (oi := ⟨some 58, .buildSlice 100 2 #[(0, .tmp 50), (1, .tmp 57)], 100, "ref.go:115", #[⟨6, .data⟩, ⟨13, .data⟩], none⟩) (oj := ⟨some 4, .alloc 36, 0, "ref.go:115", #[], none⟩) rfl rfl (by kernel_rfl) ?_ ?_
      · intro u3 hg3 hS3 K hK
        obtain ⟨fB3, fP13, fP23⟩ := F2c.out u3 hg3
        clear hS3
        have hbs := build_errs EA.1 EB.1 l1 l2 EA.2.length EB.2.length k1 k2
        go_simp
        have hal3 : Below u3.heap.size u3 (u3.alloc (.cells #[.int .i64 EA.1, .slice l1 EA.2.length k1, .int .i64 EB.1, .slice l2 EB.2.length k2] 36)) := (Below.refl _ _).alloc (Nat.le_refl _) _
        have hnw3 := heap_newW u3 (.cells #[.int .i64 EA.1, .slice l1 EA.2.length k1, .int .i64 EB.1, .slice l2 EB.2.length k2] 36)
        clear hbs
        obtain ⟨g, hgq3⟩ : ∃ g, u3.heap.size = g := ⟨_, rfl⟩
        rw [hgq3] at hnw3 ⊢
        generalize u3.alloc (.cells #[.int .i64 EA.1, .slice l1 EA.2.length k1, .int .i64 EB.1, .slice l2 EB.2.length k2] 36) = y3 at *
        have F3c : Hid (∀ wx, Below y3.heap.size y3 wx → (Below W0.heap.size W0 wx) ∧ (HasPlaces wx (.slice l1 EA.2.length k1) EA.2) ∧ (HasPlaces wx (.slice l2 EB.2.length k2) EB.2) ∧ (wx.heap[g]? = some (.cells #[.int .i64 EA.1, .slice l1 EA.2.length k1, .int .i64 EB.1, .slice l2 EB.2.length k2] 36))) := fun wx hx => ⟨(btrH' (btrH' fB3 hal3) hx), (HasPlaces.keep (HasPlaces.keep fP13 hal3) hx), (HasPlaces.keep (HasPlaces.keep fP23 hal3) hx), ((Below.block hx _ (some_lt hnw3)).trans hnw3)⟩
        refine hK.out _ _ (HS6.out _ (F3c.out _ (Below.refl _ _)).1) ?_
        clear hK K F2c
        try simp only [Act.put, List.setIfInBounds_toArray, List.set_cons_zero, List.set_cons_succ]
        refine ready2M (i := 15) (j := 16) (oi := ⟨some 59, .call { callee := .value (.func 47), args := #[.tmp 58], argTypes := #[100] }, 36, "ref.go:115", #[⟨14, .data⟩, ⟨13, .chain⟩], none⟩) (oj := ⟨some 4, .alloc 36, 0, "ref.go:115", #[], none⟩) rfl rfl (by kernel_rfl) ?_ ?_
        · intro u4 hg4 hS4 K hK
          obtain ⟨fB4, fP14, fP24, fG4⟩ := F3c.out u4 hg4
          clear hS4
          go_simp
          refine (first_two (E1 := EA) (E2 := EB) fG4 fP14 fP24).mono ?_
          rintro e y4 ⟨l3, k3, rfl, hp4, hy4⟩
          rw [HEC.out] at hp4 ⊢
          go_wp2_with fail
          have F4c : Hid (∀ wx, Below y4.heap.size y4 wx → (Below W0.heap.size W0 wx) ∧ (HasPlaces wx (.slice l1 EA.2.length k1) EA.2) ∧ (HasPlaces wx (.slice l2 EB.2.length k2) EB.2) ∧ (wx.heap[g]? = some (.cells #[.int .i64 EA.1, .slice l1 EA.2.length k1, .int .i64 EB.1, .slice l2 EB.2.length k2] 36)) ∧ (HasPlaces wx (.slice l3 EC.2.length k3) EC.2)) := fun wx hx => ⟨(btrH' (btrH' fB4 hy4) hx), (HasPlaces.keep (HasPlaces.keep fP14 hy4) hx), (HasPlaces.keep (HasPlaces.keep fP24 hy4) hx), ((Below.block hx _ (some_lt ((Below.block hy4 _ (some_lt fG4)).trans fG4))).trans ((Below.block hy4 _ (some_lt fG4)).trans fG4)), (HasPlaces.keep hp4 hx)⟩
          refine hK.out _ _ (HS6.out _ (F4c.out _ (Below.refl _ _)).1) ?_
          clear hK K F3c
          try simp only [Act.put, List.setIfInBounds_toArray, List.set_cons_zero, List.set_cons_succ]
          refine readyM (i := 16) (o := ⟨some 4, .alloc 36, 0, "ref.go:115", #[], none⟩) rfl (by kernel_rfl) ?_
          intro u5 hg5 hS5 K hK
          obtain ⟨fB5a, fP15a, fP25a, fG5a, fR5a⟩ := F4c.out u5 hg5
          clear hS5
          go_simp
          have hal5 : Below u5.heap.size u5 (u5.alloc (.cells #[.int .i64 0, .slice none 0 0] 36)) := (Below.refl _ _).alloc (Nat.le_refl _) _
          have hnw5 := heap_newW u5 (.cells #[.int .i64 0, .slice none 0 0] 36)
          have hle5 : W0.heap.size ≤ u5.heap.size := Below.size fB5a
          obtain ⟨q, hgq5⟩ : ∃ q, u5.heap.size = q := ⟨_, rfl⟩
          rw [hgq5] at hnw5 hle5 ⊢
          generalize u5.alloc (.cells #[.int .i64 0, .slice none 0 0] 36) = y5 at *
          have hZ5 : y5.heap[q]? = some (.cells #[.int .i64 0, .slice none 0 0] 36) ∧ W0.heap.size ≤ q := ⟨hnw5, hle5⟩
          have F5a : Hid (∀ wx, Below y5.heap.size y5 wx → (Below W0.heap.size W0 wx) ∧ (HasPlaces wx (.slice l1 EA.2.length k1) EA.2) ∧ (HasPlaces wx (.slice l2 EB.2.length k2) EB.2) ∧ (wx.heap[g]? = some (.cells #[.int .i64 EA.1, .slice l1 EA.2.length k1, .int .i64 EB.1, .slice l2 EB.2.length k2] 36)) ∧ (HasPlaces wx (.slice l3 EC.2.length k3) EC.2) ∧ (wx.heap[q]? = some (.cells #[.int .i64 0, .slice none 0 0] 36) ∧ W0.heap.size ≤ q)) := fun wx hx => ⟨(btrH' (btrH' fB5a hal5) hx), (HasPlaces.keep (HasPlaces.keep fP15a hal5) hx), (HasPlaces.keep (HasPlaces.keep fP25a hal5) hx), ((Below.block hx _ (some_lt ((Below.block hal5 _ (some_lt fG5a)).trans fG5a))).trans ((Below.block hal5 _ (some_lt fG5a)).trans fG5a)), (HasPlaces.keep (HasPlaces.keep fR5a hal5) hx), ⟨(Below.block hx _ (some_lt (And.left hZ5))).trans (And.left hZ5), And.right hZ5⟩⟩
          refine hK.out _ _ (HS6.out _ (F5a.out _ (Below.refl _ _)).1) ?_
          clear hK K F4c
          try simp only [Act.put, List.setIfInBounds_toArray, List.set_cons_zero, List.set_cons_succ]
          refine readyM (i := 17) (o := ⟨none, .store 36 (.tmp 4) (.tmp 59), 0, "ref.go:115", #[⟨16, .data⟩, ⟨15, .data⟩, ⟨15, .chain⟩, ⟨0, .phase⟩, ⟨1, .phase⟩, ⟨2, .phase⟩, ⟨3, .phase⟩, ⟨4, .phase⟩, ⟨5, .phase⟩, ⟨6, .phase⟩, ⟨7, .phase⟩, ⟨8, .phase⟩, ⟨9, .phase⟩, ⟨10, .phase⟩, ⟨11, .phase⟩, ⟨12, .phase⟩, ⟨13, .phase⟩, ⟨14, .phase⟩, ⟨15, .phase⟩, ⟨16, .phase⟩], none⟩) rfl (by kernel_rfl) ?_
          intro u6 hg6 hS6 K hK
          obtain ⟨fB6, fP16, fP26, fG6, fR6, fZ6⟩ := F5a.out u6 hg6
          obtain ⟨d0, d1', f0, f1⟩ := cell_two (And.left fZ6)
          clear hS6
          go_simp
          have HT : Hid (((u6.setCell ⟨q, 0, none⟩ (.int .i64 EC.1)).setCell ⟨q, 1, none⟩ (.slice l3 EC.2.length k3)).heap[q]? = some (.cells #[.int .i64 EC.1, .slice l3 EC.2.length k3] 36) ∧ HasPlaces ((u6.setCell ⟨q, 0, none⟩ (.int .i64 EC.1)).setCell ⟨q, 1, none⟩ (.slice l3 EC.2.length k3)) (.slice l3 EC.2.length k3) EC.2 ∧ Below W0.heap.size W0 ((u6.setCell ⟨q, 0, none⟩ (.int .i64 EC.1)).setCell ⟨q, 1, none⟩ (.slice l3 EC.2.length k3))) := ⟨set_err (And.left fZ6) _ _, pl_sets (And.left fZ6) fR6 _ _, (Below.setCell (p := ⟨q, 0, none⟩) fB6 (And.right fZ6) _).setCell (p := ⟨q, 1, none⟩) (And.right fZ6) _⟩
          refine hK.out _ _ (HS6.out _ HT.out.2.2) ?_
          clear hK K d0 d1' f0 f1
          try simp only [Act.put, List.setIfInBounds_toArray, List.set_cons_zero, List.set_cons_succ]
          refine wpAnyM_done (by kernel_rfl) ?_ _
          intro u9 hg9 hS9
          exact KEY6 _ _ _ _ _ _ _ _ _ _ _ _ _ _ _ _ _ _ _ _ _ _ _ _ _ _ _ _ _ _ _ _ _ _ _ _ _ _ _ _ _ _ _ _ _ _ _ _ _ q l3 k3 u9 ⟨(Below.block hg9 _ (some_lt HT.out.1)).trans HT.out.1, HasPlaces.keep HT.out.2.1 hg9, btrH' HT.out.2.2 hg9⟩
        · intro u4 hg4 hS4 K hK
          obtain ⟨fB4a, fP14a, fP24a, fG4a⟩ := F3c.out u4 hg4
          clear hS4
          go_simp
          have hal4 : Below u4.heap.size u4 (u4.alloc (.cells #[.int .i64 0, .slice none 0 0] 36)) := (Below.refl _ _).alloc (Nat.le_refl _) _
          have hnw4 := heap_newW u4 (.cells #[.int .i64 0, .slice none 0 0] 36)
          have hle4 : W0.heap.size ≤ u4.heap.size := Below.size fB4a
          obtain ⟨q, hgq4⟩ : ∃ q, u4.heap.size = q := ⟨_, rfl⟩
          rw [hgq4] at hnw4 hle4 ⊢
          generalize u4.alloc (.cells #[.int .i64 0, .slice none 0 0] 36) = y4 at *
          have hZ4 : y4.heap[q]? = some (.cells #[.int .i64 0, .slice none 0 0] 36) ∧ W0.heap.size ≤ q := ⟨hnw4, hle4⟩
          have F4a : Hid (∀ wx, Below y4.heap.size y4 wx → (Below W0.heap.size W0 wx) ∧ (HasPlaces wx (.slice l1 EA.2.length k1) EA.2) ∧ (HasPlaces wx (.slice l2 EB.2.length k2) EB.2) ∧ (wx.heap[g]? = some (.cells #[.int .i64 EA.1, .slice l1 EA.2.length k1, .int .i64 EB.1, .slice l2 EB.2.length k2] 36)) ∧ (wx.heap[q]? = some (.cells #[.int .i64 0, .slice none 0 0] 36) ∧ W0.heap.size ≤ q)) := fun wx hx => ⟨(btrH' (btrH' fB4a hal4) hx), (HasPlaces.keep (HasPlaces.keep fP14a hal4) hx), (HasPlaces.keep (HasPlaces.keep fP24a hal4) hx), ((Below.block hx _ (some_lt ((Below.block hal4 _ (some_lt fG4a)).trans fG4a))).trans ((Below.block hal4 _ (some_lt fG4a)).trans fG4a)), ⟨(Below.block hx _ (some_lt (And.left hZ4))).trans (And.left hZ4), And.right hZ4⟩⟩
          refine hK.out _ _ (HS6.out _ (F4a.out _ (Below.refl _ _)).1) ?_
          clear hK K F3c
          try simp only [Act.put, List.setIfInBounds_toArray, List.set_cons_zero, List.set_cons_succ]
          refine readyM (i := 15) (o := ⟨some 59, .call { callee := .value (.func 47), args := #[.tmp 58], argTypes := #[100] }, 36, "ref.go:115", #[⟨14, .data⟩, ⟨13, .chain⟩], none⟩) rfl (by kernel_rfl) ?_
          intro u7 hg7 hS7 K hK
          obtain ⟨fB7, fP17, fP27, fG7, fZ7⟩ := F4a.out u7 hg7
          clear hS7
          go_simp
          refine (first_two (E1 := EA) (E2 := EB) fG7 fP17 fP27).mono ?_
          rintro e y7 ⟨l3, k3, rfl, hp7, hy7⟩
          rw [HEC.out] at hp7 ⊢
          go_wp2_with fail
          have F7c : Hid (∀ wx, Below y7.heap.size y7 wx → (Below W0.heap.size W0 wx) ∧ (HasPlaces wx (.slice l1 EA.2.length k1) EA.2) ∧ (HasPlaces wx (.slice l2 EB.2.length k2) EB.2) ∧ (wx.heap[g]? = some (.cells #[.int .i64 EA.1, .slice l1 EA.2.length k1, .int .i64 EB.1, .slice l2 EB.2.length k2] 36)) ∧ (HasPlaces wx (.slice l3 EC.2.length k3) EC.2) ∧ (wx.heap[q]? = some (.cells #[.int .i64 0, .slice none 0 0] 36) ∧ W0.heap.size ≤ q)) := fun wx hx => ⟨(btrH' (btrH' fB7 hy7) hx), (HasPlaces.keep (HasPlaces.keep fP17 hy7) hx), (HasPlaces.keep (HasPlaces.keep fP27 hy7) hx), ((Below.block hx _ (some_lt ((Below.block hy7 _ (some_lt fG7)).trans fG7))).trans ((Below.block hy7 _ (some_lt fG7)).trans fG7)), (HasPlaces.keep hp7 hx), ⟨(Below.block hx _ (some_lt (And.left ⟨(Below.block hy7 _ (some_lt (And.left fZ7))).trans (And.left fZ7), And.right fZ7⟩))).trans (And.left ⟨(Below.block hy7 _ (some_lt (And.left fZ7))).trans (And.left fZ7), And.right fZ7⟩), And.right ⟨(Below.block hy7 _ (some_lt (And.left fZ7))).trans (And.left fZ7), And.right fZ7⟩⟩⟩
          refine hK.out _ _ (HS6.out _ (F7c.out _ (Below.refl _ _)).1) ?_
          clear hK K F4a
          try simp only [Act.put, List.setIfInBounds_toArray, List.set_cons_zero, List.set_cons_succ]
          refine readyM (i := 17) (o := ⟨none, .store 36 (.tmp 4) (.tmp 59), 0, "ref.go:115", #[⟨16, .data⟩, ⟨15, .data⟩, ⟨15, .chain⟩, ⟨0, .phase⟩, ⟨1, .phase⟩, ⟨2, .phase⟩, ⟨3, .phase⟩, ⟨4, .phase⟩, ⟨5, .phase⟩, ⟨6, .phase⟩, ⟨7, .phase⟩, ⟨8, .phase⟩, ⟨9, .phase⟩, ⟨10, .phase⟩, ⟨11, .phase⟩, ⟨12, .phase⟩, ⟨13, .phase⟩, ⟨14, .phase⟩, ⟨15, .phase⟩, ⟨16, .phase⟩], none⟩) rfl (by kernel_rfl) ?_
          intro u8 hg8 hS8 K hK
          obtain ⟨fB8, fP18, fP28, fG8, fR8, fZ8⟩ := F7c.out u8 hg8
          obtain ⟨d0, d1', f0, f1⟩ := cell_two (And.left fZ8)
          clear hS8
          go_simp
          have HT : Hid (((u8.setCell ⟨q, 0, none⟩ (.int .i64 EC.1)).setCell ⟨q, 1, none⟩ (.slice l3 EC.2.length k3)).heap[q]? = some (.cells #[.int .i64 EC.1, .slice l3 EC.2.length k3] 36) ∧ HasPlaces ((u8.setCell ⟨q, 0, none⟩ (.int .i64 EC.1)).setCell ⟨q, 1, none⟩ (.slice l3 EC.2.length k3)) (.slice l3 EC.2.length k3) EC.2 ∧ Below W0.heap.size W0 ((u8.setCell ⟨q, 0, none⟩ (.int .i64 EC.1)).setCell ⟨q, 1, none⟩ (.slice l3 EC.2.length k3))) := ⟨set_err (And.left fZ8) _ _, pl_sets (And.left fZ8) fR8 _ _, (Below.setCell (p := ⟨q, 0, none⟩) fB8 (And.right fZ8) _).setCell (p := ⟨q, 1, none⟩) (And.right fZ8) _⟩
          refine hK.out _ _ (HS6.out _ HT.out.2.2) ?_
          clear hK K d0 d1' f0 f1
          try simp only [Act.put, List.setIfInBounds_toArray, List.set_cons_zero, List.set_cons_succ]
          refine wpAnyM_done (by kernel_rfl) ?_ _
          intro u9 hg9 hS9
          exact KEY6 _ _ _ _ _ _ _ _ _ _ _ _ _ _ _ _ _ _ _ _ _ _ _ _ _ _ _ _ _ _ _ _ _ _ _ _ _ _ _ _ _ _ _ _ _ _ _ _ _ q l3 k3 u9 ⟨(Below.block hg9 _ (some_lt HT.out.1)).trans HT.out.1, HasPlaces.keep HT.out.2.1 hg9, btrH' HT.out.2.2 hg9⟩
      · intro u3 hg3 hS3 K hK
        obtain ⟨fB3a, fP13a, fP23a⟩ := F2c.out u3 hg3
        clear hS3
        go_simp
        have hal3 : Below u3.heap.size u3 (u3.alloc (.cells #[.int .i64 0, .slice none 0 0] 36)) := (Below.refl _ _).alloc (Nat.le_refl _) _
        have hnw3 := heap_newW u3 (.cells #[.int .i64 0, .slice none 0 0] 36)
        have hle3 : W0.heap.size ≤ u3.heap.size := Below.size fB3a
        obtain ⟨q, hgq3⟩ : ∃ q, u3.heap.size = q := ⟨_, rfl⟩
        rw [hgq3] at hnw3 hle3 ⊢
        generalize u3.alloc (.cells #[.int .i64 0, .slice none 0 0] 36) = y3 at *
        have hZ3 : y3.heap[q]? = some (.cells #[.int .i64 0, .slice none 0 0] 36) ∧ W0.heap.size ≤ q := ⟨hnw3, hle3⟩
        have F3a : Hid (∀ wx, Below y3.heap.size y3 wx → (Below W0.heap.size W0 wx) ∧ (HasPlaces wx (.slice l1 EA.2.length k1) EA.2) ∧ (HasPlaces wx (.slice l2 EB.2.length k2) EB.2) ∧ (wx.heap[q]? = some (.cells #[.int .i64 0, .slice none 0 0] 36) ∧ W0.heap.size ≤ q)) := fun wx hx => ⟨(btrH' (btrH' fB3a hal3) hx), (HasPlaces.keep (HasPlaces.keep fP13a hal3) hx), (HasPlaces.keep (HasPlaces.keep fP23a hal3) hx), ⟨(Below.block hx _ (some_lt (And.left hZ3))).trans (And.left hZ3), And.right hZ3⟩⟩
        refine hK.out _ _ (HS6.out _ (F3a.out _ (Below.refl _ _)).1) ?_
        clear hK K F2c
        try simp only [Act.put, List.setIfInBounds_toArray, List.set_cons_zero, List.set_cons_succ]
        refine readyM (i := 14) (o := ⟨some 58, .buildSlice 100 2 #[(0, .tmp 50), (1, .tmp 57)], 100, "ref.go:115", #[⟨6, .data⟩, ⟨13, .data⟩], none⟩) rfl (by kernel_rfl) ?_
        intro u9 hg9 hS9 K hK
        obtain ⟨fB9, fP19, fP29, fZ9⟩ := F3a.out u9 hg9
        clear hS9
        have hbs := build_errs EA.1 EB.1 l1 l2 EA.2.length EB.2.length k1 k2
        go_simp
        have hal9 : Below u9.heap.size u9 (u9.alloc (.cells #[.int .i64 EA.1, .slice l1 EA.2.length k1, .int .i64 EB.1, .slice l2 EB.2.length k2] 36)) := (Below.refl _ _).alloc (Nat.le_refl _) _
        have hnw9 := heap_newW u9 (.cells #[.int .i64 EA.1, .slice l1 EA.2.length k1, .int .i64 EB.1, .slice l2 EB.2.length k2] 36)
        clear hbs
        obtain ⟨g, hgq9⟩ : ∃ g, u9.heap.size = g := ⟨_, rfl⟩
        rw [hgq9] at hnw9 ⊢
        generalize u9.alloc (.cells #[.int .i64 EA.1, .slice l1 EA.2.length k1, .int .i64 EB.1, .slice l2 EB.2.length k2] 36) = y9 at *
        have F9c : Hid (∀ wx, Below y9.heap.size y9 wx → (Below W0.heap.size W0 wx) ∧ (HasPlaces wx (.slice l1 EA.2.length k1) EA.2) ∧ (HasPlaces wx (.slice l2 EB.2.length k2) EB.2) ∧ (wx.heap[g]? = some (.cells #[.int .i64 EA.1, .slice l1 EA.2.length k1, .int .i64 EB.1, .slice l2 EB.2.length k2] 36)) ∧ (wx.heap[q]? = some (.cells #[.int .i64 0, .slice none 0 0] 36) ∧ W0.heap.size ≤ q)) := fun wx hx => ⟨(btrH' (btrH' fB9 hal9) hx), (HasPlaces.keep (HasPlaces.keep fP19 hal9) hx), (HasPlaces.keep (HasPlaces.keep fP29 hal9) hx), ((Below.block hx _ (some_lt hnw9)).trans hnw9), ⟨(Below.block hx _ (some_lt (And.left ⟨(Below.block hal9 _ (some_lt (And.left fZ9))).trans (And.left fZ9), And.right fZ9⟩))).trans (And.left ⟨(Below.block hal9 _ (some_lt (And.left fZ9))).trans (And.left fZ9), And.right fZ9⟩), And.right ⟨(Below.block hal9 _ (some_lt (And.left fZ9))).trans (And.left fZ9), And.right fZ9⟩⟩⟩
        refine hK.out _ _ (HS6.out _ (F9c.out _ (Below.refl _ _)).1) ?_
        clear hK K F3a
        try simp only [Act.put, List.setIfInBounds_toArray, List.set_cons_zero, List.set_cons_succ]
        refine readyM (i := 15) (o := ⟨some 59, .call { callee := .value (.func 47), args := #[.tmp 58], argTypes := #[100] }, 36, "ref.go:115", #[⟨14, .data⟩, ⟨13, .chain⟩], none⟩) rfl (by kernel_rfl) ?_
        intro u10 hg10 hS10 K hK
        obtain ⟨fB10, fP110, fP210, fG10, fZ10⟩ := F9c.out u10 hg10
        clear hS10
        go_simp
        refine (first_two (E1 := EA) (E2 := EB) fG10 fP110 fP210).mono ?_
        rintro e y10 ⟨l3, k3, rfl, hp10, hy10⟩
        rw [HEC.out] at hp10 ⊢
        go_wp2_with fail
        have F10c : Hid (∀ wx, Below y10.heap.size y10 wx → (Below W0.heap.size W0 wx) ∧ (HasPlaces wx (.slice l1 EA.2.length k1) EA.2) ∧ (HasPlaces wx (.slice l2 EB.2.length k2) EB.2) ∧ (wx.heap[g]? = some (.cells #[.int .i64 EA.1, .slice l1 EA.2.length k1, .int .i64 EB.1, .slice l2 EB.2.length k2] 36)) ∧ (HasPlaces wx (.slice l3 EC.2.length k3) EC.2) ∧ (wx.heap[q]? = some (.cells #[.int .i64 0, .slice none 0 0] 36) ∧ W0.heap.size ≤ q)) := fun wx hx => ⟨(btrH' (btrH' fB10 hy10) hx), (HasPlaces.keep (HasPlaces.keep fP110 hy10) hx), (HasPlaces.keep (HasPlaces.keep fP210 hy10) hx), ((Below.block hx _ (some_lt ((Below.block hy10 _ (some_lt fG10)).trans fG10))).trans ((Below.block hy10 _ (some_lt fG10)).trans fG10)), (HasPlaces.keep hp10 hx), ⟨(Below.block hx _ (some_lt (And.left ⟨(Below.block hy10 _ (some_lt (And.left fZ10))).trans (And.left fZ10), And.right fZ10⟩))).trans (And.left ⟨(Below.block hy10 _ (some_lt (And.left fZ10))).trans (And.left fZ10), And.right fZ10⟩), And.right ⟨(Below.block hy10 _ (some_lt (And.left fZ10))).trans (And.left fZ10), And.right fZ10⟩⟩⟩
        refine hK.out _ _ (HS6.out _ (F10c.out _ (Below.refl _ _)).1) ?_
        clear hK K F9c
        try simp only [Act.put, List.setIfInBounds_toArray, List.set_cons_zero, List.set_cons_succ]
        refine readyM (i := 17) (o := ⟨none, .store 36 (.tmp 4) (.tmp 59), 0, "ref.go:115", #[⟨16, .data⟩, ⟨15, .data⟩, ⟨15, .chain⟩, ⟨0, .phase⟩, ⟨1, .phase⟩, ⟨2, .phase⟩, ⟨3, .phase⟩, ⟨4, .phase⟩, ⟨5, .phase⟩, ⟨6, .phase⟩, ⟨7, .phase⟩, ⟨8, .phase⟩, ⟨9, .phase⟩, ⟨10, .phase⟩, ⟨11, .phase⟩, ⟨12, .phase⟩, ⟨13, .phase⟩, ⟨14, .phase⟩, ⟨15, .phase⟩, ⟨16, .phase⟩], none⟩) rfl (by kernel_rfl) ?_
        intro u11 hg11 hS11 K hK
        obtain ⟨fB11, fP111, fP211, fG11, fR11, fZ11⟩ := F10c.out u11 hg11
        obtain ⟨d0, d1', f0, f1⟩ := cell_two (And.left fZ11)
        clear hS11
        go_simp
        have HT : Hid (((u11.setCell ⟨q, 0, none⟩ (.int .i64 EC.1)).setCell ⟨q, 1, none⟩ (.slice l3 EC.2.length k3)).heap[q]? = some (.cells #[.int .i64 EC.1, .slice l3 EC.2.length k3] 36) ∧ HasPlaces ((u11.setCell ⟨q, 0, none⟩ (.int .i64 EC.1)).setCell ⟨q, 1, none⟩ (.slice l3 EC.2.length k3)) (.slice l3 EC.2.length k3) EC.2 ∧ Below W0.heap.size W0 ((u11.setCell ⟨q, 0, none⟩ (.int .i64 EC.1)).setCell ⟨q, 1, none⟩ (.slice l3 EC.2.length k3))) := ⟨set_err (And.left fZ11) _ _, pl_sets (And.left fZ11) fR11 _ _, (Below.setCell (p := ⟨q, 0, none⟩) fB11 (And.right fZ11) _).setCell (p := ⟨q, 1, none⟩) (And.right fZ11) _⟩
        refine hK.out _ _ (HS6.out _ HT.out.2.2) ?_
        clear hK K d0 d1' f0 f1
        try simp only [Act.put, List.setIfInBounds_toArray, List.set_cons_zero, List.set_cons_succ]
        refine wpAnyM_done (by kernel_rfl) ?_ _
        intro u9 hg9 hS9
        exact KEY6 _ _ _ _ _ _ _ _ _ _ _ _ _ _ _ _ _ _ _ _ _ _ _ _ _ _ _ _ _ _ _ _ _ _ _ _ _ _ _ _ _ _ _ _ _ _ _ _ _ q l3 k3 u9 ⟨(Below.block hg9 _ (some_lt HT.out.1)).trans HT.out.1, HasPlaces.keep HT.out.2.1 hg9, btrH' HT.out.2.2 hg9⟩
    · intro u2 hg2 hS2 K hK
      obtain ⟨fB2a, fP12a⟩ := F1c.out u2 hg2
      clear hS2
      go_simp
      have hal2 : Below u2.heap.size u2 (u2.alloc (.cells #[.int .i64 0, .slice none 0 0] 36)) := (Below.refl _ _).alloc (Nat.le_refl _) _
      have hnw2 := heap_newW u2 (.cells #[.int .i64 0, .slice none 0 0] 36)
      have hle2 : W0.heap.size ≤ u2.heap.size := Below.size fB2a
      obtain ⟨q, hgq2⟩ : ∃ q, u2.heap.size = q := ⟨_, rfl⟩
      rw [hgq2] at hnw2 hle2 ⊢
      generalize u2.alloc (.cells #[.int .i64 0, .slice none 0 0] 36) = y2 at *
      have hZ2 : y2.heap[q]? = some (.cells #[.int .i64 0, .slice none 0 0] 36) ∧ W0.heap.size ≤ q := ⟨hnw2, hle2⟩
      have F2a : Hid (∀ wx, Below y2.heap.size y2 wx → (Below W0.heap.size W0 wx) ∧ (HasPlaces wx (.slice l1 EA.2.length k1) EA.2) ∧ (wx.heap[q]? = some (.cells #[.int .i64 0, .slice none 0 0] 36) ∧ W0.heap.size ≤ q)) := fun wx hx => ⟨(btrH' (btrH' fB2a hal2) hx), (HasPlaces.keep (HasPlaces.keep fP12a hal2) hx), ⟨(Below.block hx _ (some_lt (And.left hZ2))).trans (And.left hZ2), And.right hZ2⟩⟩
      refine hK.out _ _ (HS6.out _ (F2a.out _ (Below.refl _ _)).1) ?_
      clear hK K F1c
      try simp only [Act.put, List.setIfInBounds_toArray, List.set_cons_zero, List.set_cons_succ]
      refine readyM (i := 13) (o := ⟨some 57, .call { callee := .value (.func 48), args := #[.tmp 52, .tmp 53, .tmp 56], argTypes := #[22, 3, 3] }, 36, "ref.go:115", #[⟨8, .data⟩, ⟨9, .data⟩, ⟨12, .data⟩, ⟨6, .chain⟩], none⟩) rfl (by kernel_rfl) ?_
      intro u12 hg12 hS12 K hK
      obtain ⟨fB12, fP112, fZ12⟩ := F2a.out u12 hg12
      clear hS12
      go_simp
      refine (HC2.out u12 fB12).mono ?_
      rintro e y12 ⟨l2, k2, rfl, hp12, hy12⟩
      rw [HEB.out] at hp12 ⊢
      go_wp2_with fail
      have F12c : Hid (∀ wx, Below y12.heap.size y12 wx → (Below W0.heap.size W0 wx) ∧ (HasPlaces wx (.slice l1 EA.2.length k1) EA.2) ∧ (HasPlaces wx (.slice l2 EB.2.length k2) EB.2) ∧ (wx.heap[q]? = some (.cells #[.int .i64 0, .slice none 0 0] 36) ∧ W0.heap.size ≤ q)) := fun wx hx => ⟨(btrH' (btrH' fB12 hy12) hx), (HasPlaces.keep (HasPlaces.keep fP112 hy12) hx), (HasPlaces.keep hp12 hx), ⟨(Below.block hx _ (some_lt (And.left ⟨(Below.block hy12 _ (some_lt (And.left fZ12))).trans (And.left fZ12), And.right fZ12⟩))).trans (And.left ⟨(Below.block hy12 _ (some_lt (And.left fZ12))).trans (And.left fZ12), And.right fZ12⟩), And.right ⟨(Below.block hy12 _ (some_lt (And.left fZ12))).trans (And.left fZ12), And.right fZ12⟩⟩⟩
      refine hK.out _ _ (HS6.out _ (F12c.out _ (Below.refl _ _)).1) ?_
      clear hK K F2a
      try simp only [Act.put, List.setIfInBounds_toArray, List.set_cons_zero, List.set_cons_succ]
      refine readyM (i := 14) (o := ⟨some 58, .buildSlice 100 2 #[(0, .tmp 50), (1, .tmp 57)], 100, "ref.go:115", #[⟨6, .data⟩, ⟨13, .data⟩], none⟩) rfl (by kernel_rfl) ?_
      intro u13 hg13 hS13 K hK
      obtain ⟨fB13, fP113, fP213, fZ13⟩ := F12c.out u13 hg13
      clear hS13
      have hbs := build_errs EA.1 EB.1 l1 l2 EA.2.length EB.2.length k1 k2
      go_simp
      have hal13 : Below u13.heap.size u13 (u13.alloc (.cells #[.int .i64 EA.1, .slice l1 EA.2.length k1, .int .i64 EB.1, .slice l2 EB.2.length k2] 36)) := (Below.refl _ _).alloc (Nat.le_refl _) _
      have hnw13 := heap_newW u13 (.cells #[.int .i64 EA.1, .slice l1 EA.2.length k1, .int .i64 EB.1, .slice l2 EB.2.length k2] 36)
      clear hbs
      obtain ⟨g, hgq13⟩ : ∃ g, u13.heap.size = g := ⟨_, rfl⟩
      rw [hgq13] at hnw13 ⊢
      generalize u13.alloc (.cells #[.int .i64 EA.1, .slice l1 EA.2.length k1, .int .i64 EB.1, .slice l2 EB.2.length k2] 36) = y13 at *
      have F13c : Hid (∀ wx, Below y13.heap.size y13 wx → (Below W0.heap.size W0 wx) ∧ (HasPlaces wx (.slice l1 EA.2.length k1) EA.2) ∧ (HasPlaces wx (.slice l2 EB.2.length k2) EB.2) ∧ (wx.heap[g]? = some (.cells #[.int .i64 EA.1, .slice l1 EA.2.length k1, .int .i64 EB.1, .slice l2 EB.2.length k2] 36)) ∧ (wx.heap[q]? = some (.cells #[.int .i64 0, .slice none 0 0] 36) ∧ W0.heap.size ≤ q)) := fun wx hx => ⟨(btrH' (btrH' fB13 hal13) hx), (HasPlaces.keep (HasPlaces.keep fP113 hal13) hx), (HasPlaces.keep (HasPlaces.keep fP213 hal13) hx), ((Below.block hx _ (some_lt hnw13)).trans hnw13), ⟨(Below.block hx _ (some_lt (And.left ⟨(Below.block hal13 _ (some_lt (And.left fZ13))).trans (And.left fZ13), And.right fZ13⟩))).trans (And.left ⟨(Below.block hal13 _ (some_lt (And.left fZ13))).trans (And.left fZ13), And.right fZ13⟩), And.right ⟨(Below.block hal13 _ (some_lt (And.left fZ13))).trans (And.left fZ13), And.right fZ13⟩⟩⟩
      refine hK.out _ _ (HS6.out _ (F13c.out _ (Below.refl _ _)).1) ?_
      clear hK K F12c
      try simp only [Act.put, List.setIfInBounds_toArray, List.set_cons_zero, List.set_cons_succ]
      refine readyM (i := 15) (o := ⟨some 59, .call { callee := .value (.func 47), args := #[.tmp 58], argTypes := #[100] }, 36, "ref.go:115", #[⟨14, .data⟩, ⟨13, .chain⟩], none⟩) rfl (by kernel_rfl) ?_
      intro u14 hg14 hS14 K hK
      obtain ⟨fB14, fP114, fP214, fG14, fZ14⟩ := F13c.out u14 hg14
      clear hS14
      go_simp
      refine (first_two (E1 := EA) (E2 := EB) fG14 fP114 fP214).mono ?_
      rintro e y14 ⟨l3, k3, rfl, hp14, hy14⟩
      rw [HEC.out] at hp14 ⊢
      go_wp2_with fail
      have F14c : Hid (∀ wx, Below y14.heap.size y14 wx → (Below W0.heap.size W0 wx) ∧ (HasPlaces wx (.slice l1 EA.2.length k1) EA.2) ∧ (HasPlaces wx (.slice l2 EB.2.length k2) EB.2) ∧ (wx.heap[g]? = some (.cells #[.int .i64 EA.1, .slice l1 EA.2.length k1, .int .i64 EB.1, .slice l2 EB.2.length k2] 36)) ∧ (HasPlaces wx (.slice l3 EC.2.length k3) EC.2) ∧ (wx.heap[q]? = some (.cells #[.int .i64 0, .slice none 0 0] 36) ∧ W0.heap.size ≤ q)) := fun wx hx => ⟨(btrH' (btrH' fB14 hy14) hx), (HasPlaces.keep (HasPlaces.keep fP114 hy14) hx), (HasPlaces.keep (HasPlaces.keep fP214 hy14) hx), ((Below.block hx _ (some_lt ((Below.block hy14 _ (some_lt fG14)).trans fG14))).trans ((Below.block hy14 _ (some_lt fG14)).trans fG14)), (HasPlaces.keep hp14 hx), ⟨(Below.block hx _ (some_lt (And.left ⟨(Below.block hy14 _ (some_lt (And.left fZ14))).trans (And.left fZ14), And.right fZ14⟩))).trans (And.left ⟨(Below.block hy14 _ (some_lt (And.left fZ14))).trans (And.left fZ14), And.right fZ14⟩), And.right ⟨(Below.block hy14 _ (some_lt (And.left fZ14))).trans (And.left fZ14), And.right fZ14⟩⟩⟩
      refine hK.out _ _ (HS6.out _ (F14c.out _ (Below.refl _ _)).1) ?_
      clear hK K F13c
      try simp only [Act.put, List.setIfInBounds_toArray, List.set_cons_zero, List.set_cons_succ]
      refine readyM (i := 17) (o := ⟨none, .store 36 (.tmp 4) (.tmp 59), 0, "ref.go:115", #[⟨16, .data⟩, ⟨15, .data⟩, ⟨15, .chain⟩, ⟨0, .phase⟩, ⟨1, .phase⟩, ⟨2, .phase⟩, ⟨3, .phase⟩, ⟨4, .phase⟩, ⟨5, .phase⟩, ⟨6, .phase⟩, ⟨7, .phase⟩, ⟨8, .phase⟩, ⟨9, .phase⟩, ⟨10, .phase⟩, ⟨11, .phase⟩, ⟨12, .phase⟩, ⟨13, .phase⟩, ⟨14, .phase⟩, ⟨15, .phase⟩, ⟨16, .phase⟩], none⟩) rfl (by kernel_rfl) ?_
      intro u15 hg15 hS15 K hK
      obtain ⟨fB15, fP115, fP215, fG15, fR15, fZ15⟩ := F14c.out u15 hg15
      obtain ⟨d0, d1', f0, f1⟩ := cell_two (And.left fZ15)
      clear hS15
      go_simp
      have HT : Hid (((u15.setCell ⟨q, 0, none⟩ (.int .i64 EC.1)).setCell ⟨q, 1, none⟩ (.slice l3 EC.2.length k3)).heap[q]? = some (.cells #[.int .i64 EC.1, .slice l3 EC.2.length k3] 36) ∧ HasPlaces ((u15.setCell ⟨q, 0, none⟩ (.int .i64 EC.1)).setCell ⟨q, 1, none⟩ (.slice l3 EC.2.length k3)) (.slice l3 EC.2.length k3) EC.2 ∧ Below W0.heap.size W0 ((u15.setCell ⟨q, 0, none⟩ (.int .i64 EC.1)).setCell ⟨q, 1, none⟩ (.slice l3 EC.2.length k3))) := ⟨set_err (And.left fZ15) _ _, pl_sets (And.left fZ15) fR15 _ _, (Below.setCell (p := ⟨q, 0, none⟩) fB15 (And.right fZ15) _).setCell (p := ⟨q, 1, none⟩) (And.right fZ15) _⟩
      refine hK.out _ _ (HS6.out _ HT.out.2.2) ?_
      clear hK K d0 d1' f0 f1
      try simp only [Act.put, List.setIfInBounds_toArray, List.set_cons_zero, List.set_cons_succ]
      refine wpAnyM_done (by kernel_rfl) ?_ _
      intro u9 hg9 hS9
      exact KEY6 _ _ _ _ _ _ _ _ _ _ _ _ _ _ _ _ _ _ _ _ _ _ _ _ _ _ _ _ _ _ _ _ _ _ _ _ _ _ _ _ _ _ _ _ _ _ _ _ _ q l3 k3 u9 ⟨(Below.block hg9 _ (some_lt HT.out.1)).trans HT.out.1, HasPlaces.keep HT.out.2.1 hg9, btrH' HT.out.2.2 hg9⟩
  · intro u1 hg1 hS1 K hK
    have fB1a := FA.out u1 hg1
    clear hS1
    go_simp
    have hal1 : Below u1.heap.size u1 (u1.alloc (.cells #[.int .i64 0, .slice none 0 0] 36)) := (Below.refl _ _).alloc (Nat.le_refl _) _
    have hnw1 := heap_newW u1 (.cells #[.int .i64 0, .slice none 0 0] 36)
    have hle1 : W0.heap.size ≤ u1.heap.size := Below.size fB1a
    obtain ⟨q, hgq1⟩ : ∃ q, u1.heap.size = q := ⟨_, rfl⟩
    rw [hgq1] at hnw1 hle1 ⊢
    generalize u1.alloc (.cells #[.int .i64 0, .slice none 0 0] 36) = y1 at *
    have hZ1 : y1.heap[q]? = some (.cells #[.int .i64 0, .slice none 0 0] 36) ∧ W0.heap.size ≤ q := ⟨hnw1, hle1⟩
    have F1a : Hid (∀ wx, Below y1.heap.size y1 wx → (Below W0.heap.size W0 wx) ∧ (wx.heap[q]? = some (.cells #[.int .i64 0, .slice none 0 0] 36) ∧ W0.heap.size ≤ q)) := fun wx hx => ⟨(btrH' (btrH' fB1a hal1) hx), ⟨(Below.block hx _ (some_lt (And.left hZ1))).trans (And.left hZ1), And.right hZ1⟩⟩
    refine hK.out _ _ (HS6.out _ (F1a.out _ (Below.refl _ _)).1) ?_
    clear hK K FA
    try simp only [Act.put, List.setIfInBounds_toArray, List.set_cons_zero, List.set_cons_succ]
    refine readyM (i := 6) (o := ⟨some 50, .call { callee := .value (.func 48), args := #[.tmp 45, .tmp 46, .tmp 49], argTypes := #[22, 3, 3] }, 36, "ref.go:115", #[⟨1, .data⟩, ⟨2, .data⟩, ⟨5, .data⟩], none⟩) rfl (by kernel_rfl) ?_
    intro u16 hg16 hS16 K hK
    obtain ⟨fB16, fZ16⟩ := F1a.out u16 hg16
    clear hS16
    go_simp
    refine (HC1.out u16 fB16).mono ?_
    rintro e y16 ⟨l1, k1, rfl, hp16, hy16⟩
    rw [HEA.out] at hp16 ⊢
    go_wp2_with fail
    have F16c : Hid (∀ wx, Below y16.heap.size y16 wx → (Below W0.heap.size W0 wx) ∧ (HasPlaces wx (.slice l1 EA.2.length k1) EA.2) ∧ (wx.heap[q]? = some (.cells #[.int .i64 0, .slice none 0 0] 36) ∧ W0.heap.size ≤ q)) := fun wx hx => ⟨(btrH' (btrH' fB16 hy16) hx), (HasPlaces.keep hp16 hx), ⟨(Below.block hx _ (some_lt (And.left ⟨(Below.block hy16 _ (some_lt (And.left fZ16))).trans (And.left fZ16), And.right fZ16⟩))).trans (And.left ⟨(Below.block hy16 _ (some_lt (And.left fZ16))).trans (And.left fZ16), And.right fZ16⟩), And.right ⟨(Below.block hy16 _ (some_lt (And.left fZ16))).trans (And.left fZ16), And.right fZ16⟩⟩⟩
    refine hK.out _ _ (HS6.out _ (F16c.out _ (Below.refl _ _)).1) ?_
    clear hK K F1a
    try simp only [Act.put, List.setIfInBounds_toArray, List.set_cons_zero, List.set_cons_succ]
    refine readyM (i := 13) (o := ⟨some 57, .call { callee := .value (.func 48), args := #[.tmp 52, .tmp 53, .tmp 56], argTypes := #[22, 3, 3] }, 36, "ref.go:115", #[⟨8, .data⟩, ⟨9, .data⟩, ⟨12, .data⟩, ⟨6, .chain⟩], none⟩) rfl (by kernel_rfl) ?_
    intro u17 hg17 hS17 K hK
    obtain ⟨fB17, fP117, fZ17⟩ := F16c.out u17 hg17
    clear hS17
    go_simp
    refine (HC2.out u17 fB17).mono ?_
    rintro e y17 ⟨l2, k2, rfl, hp17, hy17⟩
    rw [HEB.out] at hp17 ⊢
    go_wp2_with fail
    have F17c : Hid (∀ wx, Below y17.heap.size y17 wx → (Below W0.heap.size W0 wx) ∧ (HasPlaces wx (.slice l1 EA.2.length k1) EA.2) ∧ (HasPlaces wx (.slice l2 EB.2.length k2) EB.2) ∧ (wx.heap[q]? = some (.cells #[.int .i64 0, .slice none 0 0] 36) ∧ W0.heap.size ≤ q)) := fun wx hx => ⟨(btrH' (btrH' fB17 hy17) hx), (HasPlaces.keep (HasPlaces.keep fP117 hy17) hx), (HasPlaces.keep hp17 hx), ⟨(Below.block hx _ (some_lt (And.left ⟨(Below.block hy17 _ (some_lt (And.left fZ17))).trans (And.left fZ17), And.right fZ17⟩))).trans (And.left ⟨(Below.block hy17 _ (some_lt (And.left fZ17))).trans (And.left fZ17), And.right fZ17⟩), And.right ⟨(Below.block hy17 _ (some_lt (And.left fZ17))).trans (And.left fZ17), And.right fZ17⟩⟩⟩
    refine hK.out _ _ (HS6.out _ (F17c.out _ (Below.refl _ _)).1) ?_
    clear hK K F16c
    try simp only [Act.put, List.setIfInBounds_toArray, List.set_cons_zero, List.set_cons_succ]
    refine readyM (i := 14) (o := ⟨some 58, .buildSlice 100 2 #[(0, .tmp 50), (1, .tmp 57)], 100, "ref.go:115", #[⟨6, .data⟩, ⟨13, .data⟩], none⟩) rfl (by kernel_rfl) ?_
    intro u18 hg18 hS18 K hK
    obtain ⟨fB18, fP118, fP218, fZ18⟩ := F17c.out u18 hg18
    clear hS18
    have hbs := build_errs EA.1 EB.1 l1 l2 EA.2.length EB.2.length k1 k2
    go_simp
    have hal18 : Below u18.heap.size u18 (u18.alloc (.cells #[.int .i64 EA.1, .slice l1 EA.2.length k1, .int .i64 EB.1, .slice l2 EB.2.length k2] 36)) := (Below.refl _ _).alloc (Nat.le_refl _) _
    have hnw18 := heap_newW u18 (.cells #[.int .i64 EA.1, .slice l1 EA.2.length k1, .int .i64 EB.1, .slice l2 EB.2.length k2] 36)
    clear hbs
    obtain ⟨g, hgq18⟩ : ∃ g, u18.heap.size = g := ⟨_, rfl⟩
    rw [hgq18] at hnw18 ⊢
    generalize u18.alloc (.cells #[.int .i64 EA.1, .slice l1 EA.2.length k1, .int .i64 EB.1, .slice l2 EB.2.length k2] 36) = y18 at *
    have F18c : Hid (∀ wx, Below y18.heap.size y18 wx → (Below W0.heap.size W0 wx) ∧ (HasPlaces wx (.slice l1 EA.2.length k1) EA.2) ∧ (HasPlaces wx (.slice l2 EB.2.length k2) EB.2) ∧ (wx.heap[g]? = some (.cells #[.int .i64 EA.1, .slice l1 EA.2.length k1, .int .i64 EB.1, .slice l2 EB.2.length k2] 36)) ∧ (wx.heap[q]? = some (.cells #[.int .i64 0, .slice none 0 0] 36) ∧ W0.heap.size ≤ q)) := fun wx hx => ⟨(btrH' (btrH' fB18 hal18) hx), (HasPlaces.keep (HasPlaces.keep fP118 hal18) hx), (HasPlaces.keep (HasPlaces.keep fP218 hal18) hx), ((Below.block hx _ (some_lt hnw18)).trans hnw18), ⟨(Below.block hx _ (some_lt (And.left ⟨(Below.block hal18 _ (some_lt (And.left fZ18))).trans (And.left fZ18), And.right fZ18⟩))).trans (And.left ⟨(Below.block hal18 _ (some_lt (And.left fZ18))).trans (And.left fZ18), And.right fZ18⟩), And.right ⟨(Below.block hal18 _ (some_lt (And.left fZ18))).trans (And.left fZ18), And.right fZ18⟩⟩⟩
    refine hK.out _ _ (HS6.out _ (F18c.out _ (Below.refl _ _)).1) ?_
    clear hK K F17c
    try simp only [Act.put, List.setIfInBounds_toArray, List.set_cons_zero, List.set_cons_succ]
    refine readyM (i := 15) (o := ⟨some 59, .call { callee := .value (.func 47), args := #[.tmp 58], argTypes := #[100] }, 36, "ref.go:115", #[⟨14, .data⟩, ⟨13, .chain⟩], none⟩) rfl (by kernel_rfl) ?_
    intro u19 hg19 hS19 K hK
    obtain ⟨fB19, fP119, fP219, fG19, fZ19⟩ := F18c.out u19 hg19
    clear hS19
    go_simp
    refine (first_two (E1 := EA) (E2 := EB) fG19 fP119 fP219).mono ?_
    rintro e y19 ⟨l3, k3, rfl, hp19, hy19⟩
    rw [HEC.out] at hp19 ⊢
    go_wp2_with fail
    have F19c : Hid (∀ wx, Below y19.heap.size y19 wx → (Below W0.heap.size W0 wx) ∧ (HasPlaces wx (.slice l1 EA.2.length k1) EA.2) ∧ (HasPlaces wx (.slice l2 EB.2.length k2) EB.2) ∧ (wx.heap[g]? = some (.cells #[.int .i64 EA.1, .slice l1 EA.2.length k1, .int .i64 EB.1, .slice l2 EB.2.length k2] 36)) ∧ (HasPlaces wx (.slice l3 EC.2.length k3) EC.2) ∧ (wx.heap[q]? = some (.cells #[.int .i64 0, .slice none 0 0] 36) ∧ W0.heap.size ≤ q)) := fun wx hx => ⟨(btrH' (btrH' fB19 hy19) hx), (HasPlaces.keep (HasPlaces.keep fP119 hy19) hx), (HasPlaces.keep (HasPlaces.keep fP219 hy19) hx), ((Below.block hx _ (some_lt ((Below.block hy19 _ (some_lt fG19)).trans fG19))).trans ((Below.block hy19 _ (some_lt fG19)).trans fG19)), (HasPlaces.keep hp19 hx), ⟨(Below.block hx _ (some_lt (And.left ⟨(Below.block hy19 _ (some_lt (And.left fZ19))).trans (And.left fZ19), And.right fZ19⟩))).trans (And.left ⟨(Below.block hy19 _ (some_lt (And.left fZ19))).trans (And.left fZ19), And.right fZ19⟩), And.right ⟨(Below.block hy19 _ (some_lt (And.left fZ19))).trans (And.left fZ19), And.right fZ19⟩⟩⟩
    refine hK.out _ _ (HS6.out _ (F19c.out _ (Below.refl _ _)).1) ?_
    clear hK K F18c
    try simp only [Act.put, List.setIfInBounds_toArray, List.set_cons_zero, List.set_cons_succ]
    refine readyM (i := 17) (o := ⟨none, .store 36 (.tmp 4) (.tmp 59), 0, "ref.go:115", #[⟨16, .data⟩, ⟨15, .data⟩, ⟨15, .chain⟩, ⟨0, .phase⟩, ⟨1, .phase⟩, ⟨2, .phase⟩, ⟨3, .phase⟩, ⟨4, .phase⟩, ⟨5, .phase⟩, ⟨6, .phase⟩, ⟨7, .phase⟩, ⟨8, .phase⟩, ⟨9, .phase⟩, ⟨10, .phase⟩, ⟨11, .phase⟩, ⟨12, .phase⟩, ⟨13, .phase⟩, ⟨14, .phase⟩, ⟨15, .phase⟩, ⟨16, .phase⟩], none⟩) rfl (by kernel_rfl) ?_
    intro u20 hg20 hS20 K hK
    obtain ⟨fB20, fP120, fP220, fG20, fR20, fZ20⟩ := F19c.out u20 hg20
    obtain ⟨d0, d1', f0, f1⟩ := cell_two (And.left fZ20)
    clear hS20
    go_simp
    have HT : Hid (((u20.setCell ⟨q, 0, none⟩ (.int .i64 EC.1)).setCell ⟨q, 1, none⟩ (.slice l3 EC.2.length k3)).heap[q]? = some (.cells #[.int .i64 EC.1, .slice l3 EC.2.length k3] 36) ∧ HasPlaces ((u20.setCell ⟨q, 0, none⟩ (.int .i64 EC.1)).setCell ⟨q, 1, none⟩ (.slice l3 EC.2.length k3)) (.slice l3 EC.2.length k3) EC.2 ∧ Below W0.heap.size W0 ((u20.setCell ⟨q, 0, none⟩ (.int .i64 EC.1)).setCell ⟨q, 1, none⟩ (.slice l3 EC.2.length k3))) := ⟨set_err (And.left fZ20) _ _, pl_sets (And.left fZ20) fR20 _ _, (Below.setCell (p := ⟨q, 0, none⟩) fB20 (And.right fZ20) _).setCell (p := ⟨q, 1, none⟩) (And.right fZ20) _⟩
    refine hK.out _ _ (HS6.out _ HT.out.2.2) ?_
    clear hK K d0 d1' f0 f1
    try simp only [Act.put, List.setIfInBounds_toArray, List.set_cons_zero, List.set_cons_succ]
    refine wpAnyM_done (by kernel_rfl) ?_ _
    intro u9 hg9 hS9
    exact KEY6 _ _ _ _ _ _ _ _ _ _ _ _ _ _ _ _ _ _ _ _ _ _ _ _ _ _ _ _ _ _ _ _ _ _ _ _ _ _ _ _ _ _ _ _ _ _ _ _ _ q l3 k3 u9 ⟨(Below.block hg9 _ (some_lt HT.out.1)).trans HT.out.1, HasPlaces.keep HT.out.2.1 hg9, btrH' HT.out.2.2 hg9⟩
theorem docCheck10_calls (v : HV) (h : Hr) (w : World) (hH : HasH w v h) (hb1 : h.up.length ≤ 1152921504606846976) (hb2 : h.dn.length ≤ 1152921504606846976) (hb3 : h.node.length ≤ 1152921504606846976) :
    Calls Tryz.prog 22 #[hvl v h] w fun e w' => RA w (chk h) e w' :=
  docCheck10_aux v.no v.uo v.ul v.wo v.dl v.nc v.uc v.ulc v.wc v.dlc h w hH hb1 hb2 hb3
end Go.Proofs.YtodilocmfdeehaaGreatDoor.Hi
