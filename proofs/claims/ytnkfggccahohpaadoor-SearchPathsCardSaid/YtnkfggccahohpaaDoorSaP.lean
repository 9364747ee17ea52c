/- viaductref08.Path at a path. -/
import Derived.Test.YtnkfggccahohpaaDoorSaM
namespace Go.Proofs.YtnkfggccahohpaaDoor
open Go.RowKit Go.Extern

attribute [local go_sem] Oper.semAt_some

theorem Tryd.elemS : Tryd.prog.underlying 22 = some (.slice (Tryd.prog.elem 22)) := by kernel_rfl
theorem Tryd.sizeS (w : World) : (sizeOf (Tryd.prog.elem 22)).run Tryd.prog w = .ok 1 w := by kernel_rfl
theorem isl_to (b n lc i : Nat) (h : n ≤ lc) (hi : i ≤ n) (w : World) : (Instr.slice 22 (.slice (some ⟨b, 0, none⟩) n lc) none (some (.int .i64 (i : Int))) none).run Tryd.prog w = .ok (.slice (some ⟨b, 0, none⟩) i lc) w := by
  rw [run_slice_h (ht := Tryd.elemS) (h0 := by omega) (h2 := by omega), Tryd.sizeS]
  have e2 : (i : Int).toNat = i := by omega
  simp only [Result.andThen_ok, sliced, e2]
  simp [Addr.add]

theorem boxedD {W w3 : World} {o : Obj} (h : Below (W.alloc o).drew.heap.size (W.alloc o).drew w3) : w3.heap[W.heap.size]? = some o := (h.block _ (show W.heap.size < (W.alloc o).heap.size by simp)).trans (heap_new W o)
theorem boxed {W w3 : World} {o : Obj} (h : Below (W.alloc o).heap.size (W.alloc o) w3) : w3.heap[W.heap.size]? = some o := (h.block _ (by simp)).trans (heap_new _ _)

set_option maxRecDepth 100000 in
set_option maxHeartbeats 4000000 in
theorem rPath_yes (n : Nat) (zs : List (Int × Int × Int)) (fo uo wo : Option Addr) (fc tc wc : Nat) (w : World) (hz : Fine n zs) (h : CsrIn w n zs fo uo wo fc tc wc) (g lc q s t : Nat) (d : Int) (xs ws : List Int) (hq : xs.length = q + 1) (hx : HasInts w (.slice (some ⟨g, 0, none⟩) (q + 1) lc) xs) (hlc : q + 1 ≤ lc) (hP : PathIs n zs s t d xs ws) (hD : ∀ wx, Below w.heap.size w wx → Calls Tryd.prog 23 #[.agg #[.slice fo (n + 1) fc, .slice uo zs.length tc, .slice wo zs.length wc]] wx (DocAns wx (0, []))) :
    Calls Tryd.prog 21 #[.agg #[.slice fo (n + 1) fc, .slice uo zs.length tc, .slice wo zs.length wc], .slice (some ⟨g, 0, none⟩) (q + 1) lc, .int .i64 s, .int .i64 t, .int .u64 d] w fun e w' => e = .returned (.bool true) ∧ Below w.heap.size w w' := by
  obtain ⟨W0, hW0⟩ : ∃ W0, w.alloc (.cells #[.slice fo (n + 1) fc, .slice uo zs.length tc, .slice wo zs.length wc] 24) = W0 := ⟨_, rfl⟩
  have HW0 : Hid (w.alloc (.cells #[.slice fo (n + 1) fc, .slice uo zs.length tc, .slice wo zs.length wc] 24) = W0) := hW0
  have hB0 : Below w.heap.size w W0 := by rw [← hW0]; exact (Below.refl _ w).alloc (Nat.le_refl _) _
  have hbx : W0.heap[w.heap.size]? = some (.cells #[.slice fo (n + 1) fc, .slice uo zs.length tc, .slice wo zs.length wc] 24) := by rw [← hW0]; exact heap_new _ _
  have HK : Hid (∀ wx, Below W0.heap.size W0 wx → (wx.cell? ⟨w.heap.size, 0, none⟩ = some (.slice fo (n + 1) fc) ∧ wx.cell? ⟨w.heap.size, 1, none⟩ = some (.slice uo zs.length tc) ∧ wx.cell? ⟨w.heap.size, 2, none⟩ = some (.slice wo zs.length wc)) ∧ w.heap.size < wx.heap.size ∧ Below w.heap.size w wx ∧ ∀ (k : Nat) (x : Int), xs[k]? = some x → wx.cell? ⟨g, k, none⟩ = some (.int .i64 x) ∧ g < wx.heap.size) := fun wx hwx => by
    have hg := (hwx.block _ (lt_of_get hbx)).trans hbx
    have hb := hB0.trans (hwx.mono hB0.size)
    refine ⟨box3 hg, lt_of_get hg, hb, fun k x hk => ?_⟩
    obtain ⟨b, off, e, hbl, c⟩ := (hx.keep hb).at hk
    cases e
    rw [Nat.zero_add] at c
    exact ⟨c, hbl⟩
  have HND : Hid (∀ wx (v : Int), 0 ≤ v ∧ v < (n : Int) → Calls Tryd.prog 40 #[.agg #[.slice fo (n + 1) fc, .slice uo zs.length tc, .slice wo zs.length wc], .int .i64 v] wx fun e w' => e = .returned (.bool true) ∧ Below wx.heap.size wx w') := fun wx v hv => by
    have h := rNode_calls fo uo wo n fc zs.length tc zs.length wc (by have := hz.few; omega) v wx
    rw [decide_eq_true hv] at h
    exact h
  have HDF : Hid (∀ wx (v u r : Int), Below w.heap.size w wx → (v, u, r) ∈ zs → Calls Tryd.prog 41 #[.agg #[.slice fo (n + 1) fc, .slice uo zs.length tc, .slice wo zs.length wc], .int .i64 v, .int .i64 u] wx fun e w' => ∃ po pc, e = .returned (.tuple #[.int .i64 r, .agg #[.int .i64 0, .slice po 0 pc]]) ∧ Below wx.heap.size wx w') := fun wx v u r hwx ha => by
    refine (docFind_arc n zs fo uo wo fc tc wc wx hz (h.keep hwx) v u r ha (fun wy hy => hD wy (btr hwx hy))).mono ?_
    rintro e w' ⟨po, pc, he, _, hb⟩
    exact ⟨po, pc, he, hb⟩
  have HWS : Hid (∀ (j : Nat), j + 1 < q + 1 → ∃ v u r, xs[j]? = some v ∧ xs[j + 1]? = some u ∧ (v, u, r) ∈ zs ∧ (ws.take (j + 1)).sum = (ws.take j).sum + r ∧ 0 ≤ r ∧ r ≤ 2147483647) := fun j hj => by
    have hl := hP.walk.1
    obtain ⟨r, hr⟩ : ∃ r, ws[j]? = some r := ⟨ws[j]'(by omega), List.getElem?_eq_getElem _⟩
    obtain ⟨v, u, g1, g2, g3⟩ := hP.walk.2 j r hr
    have hb := hz.ends _ g3
    exact ⟨v, u, r, g1, g2, g3, sum_take hr, hb.2.2.2.2.2.1, hb.2.2.2.2.2.2⟩
  have HSB : Hid (∀ k : Nat, k ≤ q → 0 ≤ (ws.take k).sum ∧ (ws.take k).sum ≤ (k : Int) * 2147483647) := fun k hk => by
    have hl := hP.walk.1
    refine sum_le (fun i r hr => ?_) k (by omega)
    obtain ⟨v, u, g1, g2, g3⟩ := hP.walk.2 i r hr
    have hb := hz.ends _ g3
    exact ⟨hb.2.2.2.2.2.1, hb.2.2.2.2.2.2⟩
  have HXS : Hid (∀ k : Nat, k < q + 1 → ∃ x, xs[k]? = some x ∧ (0 ≤ x ∧ x < (n : Int)) ∧ ∀ (j : Nat) (y : Int), j < k → xs[j]? = some y → y ≠ x) := fun k hk => by
    obtain ⟨x, hx⟩ : ∃ x, xs[k]? = some x := ⟨xs[k]'(by omega), List.getElem?_eq_getElem _⟩
    refine ⟨x, hx, hP.node x (List.mem_of_getElem? hx), fun j y hj hy e => ?_⟩
    subst e
    have h1 := List.getElem?_eq_some_iff.1 hx
    have h2 := List.getElem?_eq_some_iff.1 hy
    have := (List.pairwise_iff_getElem.1 (List.nodup_iff_pairwise_ne.1 hP.nodup)) j k h2.1 h1.1 hj
    exact this (h2.2.trans h1.2.symm)
  have HTS : Hid ((ws.take q).sum = d) := by
    have hl := hP.walk.1
    show _ = _
    rw [List.take_of_length_le (by omega)]
    exact hP.sum
  have hn := hz.few
  have hqn : q ≤ n := by have := hP.len; omega
  have hf := hP.first
  have hla := hP.last
  rw [hq, Nat.add_sub_cancel] at hla
  obtain ⟨⟨c0, c1, c2⟩, cs, _, hcell⟩ := HK.out W0 (Below.refl _ _)
  obtain ⟨k0, kg⟩ := hcell 0 _ hf
  obtain ⟨k1, _⟩ := hcell q _ hla
  have e1 : IntKind.i64.wrap ((q : Int) + 1 - 1) = (q : Int) := by rw [IntKind.wrap_i64] <;> omega
  have e2 : IntKind.i64.wrap (q : Int) = (q : Int) := by rw [IntKind.wrap_i64] <;> omega
  have e3 : (q : Int) < (q : Int) + 1 := by omega
  have e4 : (0 : Int) ≤ (q : Int) := by omega
  have e5 : (0 : Int) < (q : Int) + 1 := by omega
  have e6 : ¬ (q : Int) + 1 = 0 := by omega
  clear hW0 hB0 hbx h hz hP hD hx hcell hf hla
  go_enter Tryd.func21, Tryd.ntmps21
  go_upto_region 1 with fail
  rw [HW0.out]
  go_wp2_with fail
  clear c0 c1 c2 cs k0 k1 kg
  go_loopw [11, 40] (fun sv iv wr => ∃ k : Nat, k ≤ q + 1 ∧ iv = .int .i64 k ∧ sv = .int .u64 (ws.take (k - 1)).sum ∧ Below W0.heap.size W0 wr) (fun _ iv _ => q + 1 - (intOf iv).toNat)
  case atStart => exact ⟨0, Nat.zero_le _, rfl, by simp, Below.refl _ _⟩
  case round =>
    obtain ⟨k, hk, rfl, rfl, hb⟩ := hrel
    have HB : Hid (Below W0.heap.size W0 wr) := hb
    obtain ⟨⟨c0, c1, c2⟩, cs, hbw, hcell⟩ := HK.out wr hb
    have HBZ : Hid (Below w.heap.size w wr) := hbw
    have HCL : Hid (type_of% hcell) := hcell
    clear hb hbw
    by_cases hlt : k < q + 1
    · obtain ⟨x, hx, hxn, hxd⟩ := HXS.out k hlt
      obtain ⟨k0, kg⟩ := hcell k x hx
      have HXK : Hid (xs[k]? = some x ∧ (0 ≤ x ∧ x < (n : Int)) ∧ ∀ (j : Nat) (y : Int), j < k → xs[j]? = some y → y ≠ x) := ⟨hx, hxn, hxd⟩
      have i1 : (k : Int) < (q : Int) + 1 := by omega
      have i2 : (0 : Int) ≤ (k : Int) := by omega
      clear hcell hx hxn hxd
      go_wp2_with fail
      refine (HND.out wr x HXK.out.2.1).mono ?_
      rintro e w1 ⟨rfl, hb1⟩
      have HB1 : Hid (Below W0.heap.size W0 w1) := HB.out.trans (hb1.mono HB.out.size)
      have hsl := isl_to g (q + 1) lc k hlc (by omega)
      clear hb1 c0 c1 c2 cs k0 kg
      go_wp2_with fail
      go_loopw [53] (fun jv wx => ∃ j : Nat, j ≤ k ∧ jv = .int .i64 j ∧ wx = w1) (fun jv _ => k - (intOf jv).toNat)
      case atStart => exact ⟨0, Nat.zero_le _, rfl, rfl⟩
      case round =>
        obtain ⟨j, hj, rfl, rfl⟩ := hrel
        by_cases hjl : j < k
        · obtain ⟨y, hy, _⟩ := HXS.out j (by omega)
          obtain ⟨q0, qg⟩ := (HK.out wr HB1.out).2.2.2 j y hy
          have hne : (y == x) = false := beq_false_of_ne (HXK.out.2.2 j y hjl hy)
          have j1 : (j : Int) < (k : Int) := by omega
          have j2 : (0 : Int) ≤ (j : Int) := by omega
          clear hy hsl
          go_wp2
          go_roundw
          case rel => exact ⟨j + 1, by omega, by go_num, trivial⟩
          case measure => simp [intOf]; omega
        · obtain rfl : j = k := by omega
          clear hsl hjl
          obtain ⟨⟨c0, c1, c2⟩, cs, hbw, hcell⟩ := HK.out wr HB1.out
          have HBW : Hid (Below w.heap.size w wr) := hbw
          clear hbw
          by_cases hk0 : j = 0
          · have HJ0 : Hid (j = 0) := hk0
            have p4 : ¬ (0 : Int) < (j : Int) := by omega
            clear hcell hk0
            go_wp2
            go_roundw
            case rel => exact ⟨_, _, _, _, _, _, _, _, ⟨j + 1, by omega, by go_num, by rw [HJ0.out], HB1.out⟩, rfl, rfl, rfl, rfl, rfl, rfl, rfl, rfl⟩
            case measure => simp [intOf]; omega
          · obtain ⟨p, HPK⟩ : ∃ p : Nat, Hid (j = p + 1) := ⟨j - 1, by show _ = _; omega⟩
            obtain ⟨v, u, r, g1, g2, g3, g4, g5, g6⟩ := HWS.out p (by have := HPK.out; omega)
            have hxu : u = x := by
              have h := HXK.out.1
              rw [HPK.out, g2] at h
              exact Option.some.inj h
            subst hxu
            have HG3 : Hid ((v, u, r) ∈ zs) := g3
            have HG1 : Hid (xs[p]? = some v) := g1
            have HSM : Hid ((ws.take (j - 1)).sum = (ws.take p).sum ∧ (ws.take j).sum = (ws.take p).sum + r) := by
              rw [HPK.out]
              exact ⟨by rw [Nat.add_sub_cancel], g4⟩
            rw [HSM.out.1]
            obtain ⟨s0, s1⟩ := HSB.out p (by have := HPK.out; omega)
            obtain ⟨q0, qg⟩ := hcell p v g1
            have hw1 : IntKind.i64.wrap ((j : Int) - 1) = (p : Int) := by have := HPK.out; rw [IntKind.wrap_i64] <;> omega
            have p1 : (p : Int) < (q : Int) + 1 := by have := HPK.out; omega
            have p2 : (0 : Int) ≤ (p : Int) := by omega
            have p3 : ¬ (j : Int) = 0 := by omega
            have p4 : (0 : Int) < (j : Int) := by omega
            clear hcell g1 g2 g3 g4
            generalize (ws.take p).sum = S at *
            have n1 : ¬ w.heap.size = wr.heap.size := by omega
            have n2 : ¬ wr.heap.size = w.heap.size := by omega
            have n3 : ¬ g = wr.heap.size := by omega
            have n4 : ¬ wr.heap.size = g := by omega
            have HBD : Hid (Below w.heap.size w wr.drew) := HBW.out.drew
            have HBA : Hid (∀ o, Below w.heap.size w (wr.drew.alloc o)) := fun o => HBW.out.drew.alloc HBW.out.size o
            go_wp2_with fail
            go_region_held3 (fun w' => (w'.cell? ⟨w.heap.size, 0, none⟩ = some (.slice fo (n + 1) fc) ∧ w'.cell? ⟨w.heap.size, 1, none⟩ = some (.slice uo zs.length tc) ∧ w'.cell? ⟨w.heap.size, 2, none⟩ = some (.slice wo zs.length wc)) ∧ w'.cell? ⟨g, p, none⟩ = some (.int .i64 v)) (go_keep) (first
              | (go_at_call 41; refine (HDF.out _ v u r (by first | exact HBD.out | exact HBA.out _) HG3.out).mono ?_; rintro e w3 ⟨po, pc, rfl, hb3⟩; have HB3 : Hid (Below W0.heap.size W0 w3) := (by first | exact (HB1.out.drew).trans (hb3.mono HB1.out.size) | exact (HB1.out.drew.alloc HB1.out.size _).trans (hb3.mono (Nat.le_trans HB1.out.size (by simp)))); obtain ⟨⟨d0, d1, d2⟩, ds, _, hcl3⟩ := HK.out w3 HB3.out; obtain ⟨d3, dg⟩ := hcl3 p v HG1.out; clear hcl3; try (have z9 : w3.heap[wr.heap.size]? = some (.cells #[.int .i64 0, .slice none 0 0] 36) := boxedD hb3; have z0 := (cell_two z9).1; have z1 := (cell_two z9).2.1; have z2 := (cell_two z9).2.2.1; have z3 := (cell_two z9).2.2.2; have zl := lt_of_get z9; clear z9)))
            · obtain ⟨e0, e1, _, _⟩ := cell_two (heap_new w3 (.cells #[.int .i64 0, .slice po 0 pc] 36))
              have es := lt_of_get (heap_new w3 (.cells #[.int .i64 0, .slice po 0 pc] 36))
              have HB4 : Hid (Below W0.heap.size W0 (w3.alloc (.cells #[.int .i64 0, .slice po 0 pc] 36))) := HB3.out.alloc HB3.out.size _
              clear d0 d1 d2 d3 ds dg hb3 c0 c1 c2 cs q0 qg n1 n2 n3 n4
              try clear z0 z1 z2 z3 zl
              generalize w3.alloc (.cells #[.int .i64 0, .slice po 0 pc] 36) = W4 at *
              generalize hBB : w3.heap.size = BB at *
              clear hBB
              go_wp2_with fail
              refine (bad_calls _ _ _ _ _).mono ?_
              rw [show ((0 : Int) != 0 || decide (0 < 0)) = false from rfl]
              rintro e w5 ⟨rfl, hb5⟩
              have HB5 : Hid (Below W0.heap.size W0 w5) := HB4.out.trans (hb5.mono HB4.out.size)
              clear hb5 e0 e1 es
              have sw : IntKind.u64.wrap (S + r) = S + r := by rw [IntKind.wrap_u64] <;> omega
              have sr : IntKind.u64.wrap r = r := by rw [IntKind.wrap_u64] <;> omega
              go_wp2
              go_roundw
              case rel =>
                iterate 48 (apply Exists.intro)
                apply And.intro
                rotate_left
                · rfl
                · exact ⟨j + 1, by omega, by go_num, by rw [Nat.add_sub_cancel, HSM.out.2], HB5.out⟩
              case measure => simp [intOf]; omega
            · have zz := lay2_box (c0 := .int .i64 0) (c1 := .slice po 0 pc) (boxedD hb3)
              unfold lay2 at zz
              obtain ⟨e0, e1, _, _⟩ := cell_two zz
              have es := lt_of_get zz
              clear zz
              have HB4 : Hid (Below W0.heap.size W0 ((w3.setCell ⟨wr.heap.size, 0, none⟩ (.int .i64 0)).setCell ⟨wr.heap.size, 1, none⟩ (.slice po 0 pc))) := (HB3.out.setCell (p := ⟨wr.heap.size, 0, none⟩) HB1.out.size _).setCell (p := ⟨wr.heap.size, 1, none⟩) HB1.out.size _
              clear d0 d1 d2 d3 ds dg hb3 c0 c1 c2 cs q0 qg n1 n2 n3 n4
              try clear z0 z1 z2 z3 zl
              generalize (w3.setCell ⟨wr.heap.size, 0, none⟩ (.int .i64 0)).setCell ⟨wr.heap.size, 1, none⟩ (.slice po 0 pc) = W4 at *
              generalize hBB : wr.heap.size = BB at *
              clear hBB
              go_wp2_with fail
              refine (bad_calls _ _ _ _ _).mono ?_
              rw [show ((0 : Int) != 0 || decide (0 < 0)) = false from rfl]
              rintro e w5 ⟨rfl, hb5⟩
              have HB5 : Hid (Below W0.heap.size W0 w5) := HB4.out.trans (hb5.mono HB4.out.size)
              clear hb5 e0 e1 es
              have sw : IntKind.u64.wrap (S + r) = S + r := by rw [IntKind.wrap_u64] <;> omega
              have sr : IntKind.u64.wrap r = r := by rw [IntKind.wrap_u64] <;> omega
              go_wp2
              go_roundw
              case rel =>
                iterate 48 (apply Exists.intro)
                apply And.intro
                rotate_left
                · rfl
                · exact ⟨j + 1, by omega, by go_num, by rw [Nat.add_sub_cancel, HSM.out.2], HB5.out⟩
              case measure => simp [intOf]; omega
    · obtain rfl : k = q + 1 := by omega
      rw [Nat.add_sub_cancel, HTS.out]
      clear hcell
      go_wp2
      go_ret
      exact ⟨rfl, HBZ.out⟩
end Go.Proofs.YtnkfggccahohpaaDoor
