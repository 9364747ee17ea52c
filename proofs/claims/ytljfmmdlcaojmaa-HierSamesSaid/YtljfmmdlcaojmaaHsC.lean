/- HierSames holds: for any two hierarchies the law answers true and its arguments read as they did. No condition beside the row's own. -/
import Derived.Test.YtljfmmdlcaojmaaHsB
import Derived.Test.YtljfmmdlcaojmaaHrT
import Derived.Test.YtljfmmdlcaojmaaHrW
import Derived.SizedLaws
namespace Go.Proofs.Ytljfmmdlcaojmaa.Hi
open Go.ChangeShapes Go.WideShapes Go.ChangeAt Go.RowKit Go.Deep Go.Extern

attribute [local go_sem] Oper.semAt_some

set_option maxRecDepth 100000 in
set_option maxHeartbeats 8000000 in
theorem sames_calls (v u : HV) (a b : Hr) (w : World) (ha : HasH w v a) (hb : HasH w u b) (ra : Reach a) (rb : Reach b) :
    Calls Try.prog 3 #[hvl v a, hvl u b] w fun e w' => e = .returned (.bool true) ∧ Below w.heap.size w w' := by
  obtain ⟨z, hz⟩ : ∃ z, w.heap.size = z := ⟨_, rfl⟩
  obtain ⟨W0, hW0⟩ : ∃ W0, (w.alloc (.cells (cellsH v a) 25)).alloc (.cells (cellsH u b) 25) = W0 := ⟨_, rfl⟩
  have hB0 : Below w.heap.size w W0 := by rw [← hW0]; exact ((Below.refl _ w).alloc (Nat.le_refl _) _).alloc (by simp) _
  have h0 : W0.heap[z]? = some (.cells (cellsH v a) 25) := by
    rw [← hW0, ← hz]; exact (Below.heap_alloc _ _ _ (by simp)).trans (heap_newW _ _)
  have h1 : W0.heap[z + 1]? = some (.cells (cellsH u b) 25) := by
    have g := heap_newW (w.alloc (.cells (cellsH v a) 25)) (.cells (cellsH u b) 25)
    rw [World.size_alloc, hW0, hz] at g
    exact g
  have hK : ∀ wx, Below W0.heap.size W0 wx → HasH wx v a ∧ HasH wx u b := fun wx hx => ⟨ha.keep (hB0.trans (hx.mono hB0.size)), hb.keep (hB0.trans (hx.mono hB0.size))⟩
  have HB0 : Hid (∀ wx, Below W0.heap.size W0 wx → Below w.heap.size w wx) := fun wx hx => hB0.trans (hx.mono hB0.size)
  have HQ : Hid (∀ wx, Below W0.heap.size W0 wx → wx.cell? ⟨z, 0, none⟩ = some (.slice v.no a.node.length v.nc) ∧ wx.cell? ⟨z, 1, none⟩ = some (.slice v.uo a.upF.length v.uc) ∧ wx.cell? ⟨z, 2, none⟩ = some (.slice v.ul a.up.length v.ulc) ∧ wx.cell? ⟨z, 3, none⟩ = some (.slice v.wo a.dnF.length v.wc) ∧ wx.cell? ⟨z, 4, none⟩ = some (.slice v.dl a.dn.length v.dlc) ∧ wx.cell? ⟨z + 1, 0, none⟩ = some (.slice u.no b.node.length u.nc) ∧ wx.cell? ⟨z + 1, 1, none⟩ = some (.slice u.uo b.upF.length u.uc) ∧ wx.cell? ⟨z + 1, 2, none⟩ = some (.slice u.ul b.up.length u.ulc) ∧ wx.cell? ⟨z + 1, 3, none⟩ = some (.slice u.wo b.dnF.length u.wc) ∧ wx.cell? ⟨z + 1, 4, none⟩ = some (.slice u.dl b.dn.length u.dlc)) := fun wx hx => by
    obtain ⟨a0, a1, a2, a3, a4⟩ := five_cells ((hx.block _ (some_lt h0)).trans h0)
    obtain ⟨b0, b1, b2, b3, b4⟩ := five_cells ((hx.block _ (some_lt h1)).trans h1)
    exact ⟨a0, a1, a2, a3, a4, b0, b1, b2, b3, b4⟩
  obtain ⟨q, hq⟩ : ∃ q, decide (a = b) = q := ⟨_, rfl⟩
  have S1 : Hid (∀ wx, Below W0.heap.size W0 wx → Calls Try.prog 8 #[hvl v a, hvl u b] wx fun e w' => e = .returned (.bool q) ∧ Below wx.heap.size wx w') := fun wx hx => hq ▸ hSame_calls v u a b wx (hK wx hx).1 (hK wx hx).2 ra.short
  have S2 : Hid (∀ wx, Below W0.heap.size W0 wx → Calls Try.prog 9 #[hvl v a, hvl u b] wx fun e w' => e = .returned (.bool q) ∧ Below wx.heap.size wx w') := fun wx hx => hq ▸ tSame_calls v u a b wx (hK wx hx).1 (hK wx hx).2 ra.short
  have S3 : Hid (∀ wx, Below W0.heap.size W0 wx → Calls Try.prog 8 #[hvl u b, hvl v a] wx fun e w' => e = .returned (.bool q) ∧ Below wx.heap.size wx w') := fun wx hx => by
    have g := hSame_calls u v b a wx (hK wx hx).2 (hK wx hx).1 rb.short
    rw [show decide (b = a) = q by rw [← hq]; exact decide_eq_decide.2 eq_comm] at g
    exact g
  have S4 : Hid (∀ wx, Below W0.heap.size W0 wx → Calls Try.prog 8 #[hvl v a, hvl v a] wx fun e w' => e = .returned (.bool true) ∧ Below wx.heap.size wx w') := fun wx hx => by
    have g := hSame_calls v v a a wx (hK wx hx).1 (hK wx hx).1 ra.short
    rw [decide_eq_true rfl] at g
    exact g
  have S5 : Hid (∀ wx, Below W0.heap.size W0 wx → Calls Try.prog 10 #[hvl u b] wx fun e w' => ∃ x, e = .returned (hvl x b) ∧ HasH w' x b ∧ Below wx.heap.size wx w') := fun wx hx => twin_calls u b wx (hK wx hx).2 rb
  have S6 : Hid (∀ wx x, Below W0.heap.size W0 wx → HasH wx x b → Calls Try.prog 8 #[hvl x b, hvl u b] wx fun e w' => e = .returned (.bool true) ∧ Below wx.heap.size wx w') := fun wx x hx hh => by
    have g := hSame_calls x u b b wx hh (hK wx hx).2 rb.short
    rw [decide_eq_true rfl] at g
    exact g
  have HW0 : Hid ((w.alloc (.cells (cellsH v a) 25)).alloc (.cells (cellsH u b) 25) = W0) := hW0
  clear hW0 h0 h1 hB0 ha hb ra rb hK hq
  unfold cellsH at HW0
  unfold hvl at S1 S2 S3 S4 S5 S6 ⊢
  go_enter Try.func3, Try.ntmps3
  go_wp2_with fail
  rw [HW0.out]
  refine (awake10_calls W0).mono ?_
  rintro e y0 ⟨rfl, hy⟩
  have Y0 : Hid (Below W0.heap.size W0 y0) := hy
  obtain ⟨a0, a1, a2, a3, a4, b0, b1, b2, b3, b4⟩ := HQ.out y0 hy
  clear hy
  cases q
  all_goals
    go_wp2_with fail
    go_region_held3 (fun w' => w'.cell? ⟨z, 0, none⟩ = some (.slice v.no a.node.length v.nc) ∧ w'.cell? ⟨z, 1, none⟩ = some (.slice v.uo a.upF.length v.uc) ∧ w'.cell? ⟨z, 2, none⟩ = some (.slice v.ul a.up.length v.ulc) ∧ w'.cell? ⟨z, 3, none⟩ = some (.slice v.wo a.dnF.length v.wc) ∧ w'.cell? ⟨z, 4, none⟩ = some (.slice v.dl a.dn.length v.dlc) ∧ w'.cell? ⟨z + 1, 0, none⟩ = some (.slice u.no b.node.length u.nc) ∧ w'.cell? ⟨z + 1, 1, none⟩ = some (.slice u.uo b.upF.length u.uc) ∧ w'.cell? ⟨z + 1, 2, none⟩ = some (.slice u.ul b.up.length u.ulc) ∧ w'.cell? ⟨z + 1, 3, none⟩ = some (.slice u.wo b.dnF.length u.wc) ∧ w'.cell? ⟨z + 1, 4, none⟩ = some (.slice u.dl b.dn.length u.dlc)) (go_keep) (first
      | (go_at_call 8; refine (S6.out _ _ Y6.out X6.out).mono ?_; rintro e y7 ⟨rfl, hy⟩; have Y7 : Hid (Below W0.heap.size W0 y7) := btrH' Y6.out hy; obtain ⟨a0, a1, a2, a3, a4, b0, b1, b2, b3, b4⟩ := HQ.out y7 Y7.out; clear hy)
      | (go_at_call 10; refine (S5.out _ Y5.out).mono ?_; rintro e y6 ⟨x, rfl, hh, hy⟩; have Y6 : Hid (Below W0.heap.size W0 y6) := btrH' Y5.out hy; have X6 : Hid (HasH y6 x b) := hh; obtain ⟨a0, a1, a2, a3, a4, b0, b1, b2, b3, b4⟩ := HQ.out y6 Y6.out; clear hy hh)
      | (go_at_call 8; refine (S4.out _ Y4.out).mono ?_; rintro e y5 ⟨rfl, hy⟩; have Y5 : Hid (Below W0.heap.size W0 y5) := btrH' Y4.out hy; obtain ⟨a0, a1, a2, a3, a4, b0, b1, b2, b3, b4⟩ := HQ.out y5 Y5.out; clear hy)
      | (go_at_call 9; refine (S2.out _ Y3.out).mono ?_; rintro e y4 ⟨rfl, hy⟩; have Y4 : Hid (Below W0.heap.size W0 y4) := btrH' Y3.out hy; obtain ⟨a0, a1, a2, a3, a4, b0, b1, b2, b3, b4⟩ := HQ.out y4 Y4.out; clear hy)
      | (go_at_call 8; refine (S3.out _ Y2.out).mono ?_; rintro e y3 ⟨rfl, hy⟩; have Y3 : Hid (Below W0.heap.size W0 y3) := btrH' Y2.out hy; obtain ⟨a0, a1, a2, a3, a4, b0, b1, b2, b3, b4⟩ := HQ.out y3 Y3.out; clear hy)
      | (go_at_call 9; refine (S2.out _ Y1.out).mono ?_; rintro e y2 ⟨rfl, hy⟩; have Y2 : Hid (Below W0.heap.size W0 y2) := btrH' Y1.out hy; obtain ⟨a0, a1, a2, a3, a4, b0, b1, b2, b3, b4⟩ := HQ.out y2 Y2.out; clear hy)
      | (go_at_call 8; refine (S1.out _ Y0.out.drew).mono ?_; rintro e y1 ⟨rfl, hy⟩; have Y1 : Hid (Below W0.heap.size W0 y1) := btrH' Y0.out.drew hy; obtain ⟨a0, a1, a2, a3, a4, b0, b1, b2, b3, b4⟩ := HQ.out y1 Y1.out; clear hy))
    go_wp2
    go_ret
    exact ⟨rfl, HB0.out _ Y7.out⟩

set_option maxRecDepth 100000 in
theorem sames_lifted (os : Os) (started : os.Started) (H : Type) (enc : TypeId × Value → H) :
    ReturnsInHanded {} Try.checked os 3 .any (Rows.hierSamesSpec.pre6 enc Try.prog Try.f3 Rows.hierSamesRow.domain false) (Rows.hierSamesSpec.post enc Try.prog Try.f3 false true false false) := by
  refine returnsInHanded_of_change_sized (C := Try.checked) Try.own started (by kernel_rfl) Try.func3
    (ChangeSpec.witness6 (enc := enc) (C := Try.checked) false ⟨#[], #[.agg #[.slice none 0 0, .slice none 0 0, .slice none 0 0, .slice none 0 0, .slice none 0 0], .agg #[.slice none 0 0, .slice none 0 0, .slice none 0 0, .slice none 0 0, .slice none 0 0]], []⟩ 8 (by kernel_rfl) (by kernel_rfl) (by kernel_rfl) (by kernel_rfl)) ?_
  intro W base args ds gs before hval0 hW _ hsz0 _
  have hval : ∀ (j : Nat) t v, Try.f3.params[j]? = some t → args[j]? = some v → Value.okWide Try.prog W .any base t v := hval0
  have hsz : (DataW.weightsEach Try.prog (Try.f3.params.toList ++ Rows.hierSamesSpec.plain.varTypes Try.prog) (ds ++ gs)).all (· ≤ reachBytes) = true := hsz0
  have hW' := hW
  obtain ⟨p, q, hA0, hV, rfl, hfz, hnd⟩ := hW
  have hA : DataW.TrodAll enc Try.prog W 0 (fun _ => true) true Try.f3.params.toList args.toList ds p := hA0
  rw [Try.params3] at hA hval hsz
  obtain ⟨v0, vs0, d0, ds0, p0, q0, hargs, rfl, rfl, hr0, r0⟩ := trodAll_cons hA
  obtain ⟨v1, vs1, d1, ds1, p1, q1, rfl, rfl, rfl, hr1, r1⟩ := trodAll_cons r0
  obtain ⟨rfl, rfl, rfl⟩ := trodAll_nil r1
  obtain rfl : args = #[v0, v1] := by cases args; simp at hargs; simp [hargs]
  obtain ⟨rfl, rfl⟩ := trodVars_none hV
  obtain ⟨x, a, e0, e1, e2, e3, e4, rfl, hH, rfl, s0, s2, s4, s1, s3⟩ := hier_open (hval 0 25 v0 rfl rfl) hr0
  obtain ⟨y, b, f0, f1, f2, f3, f4, rfl, hG, rfl, t0, t2, t4, t1, t3⟩ := hier_open (hval 1 25 v1 rfl rfl) hr1
  have ra : Reach a := ⟨reach_w hsz (j := 0) rfl rfl (Or.inl rfl) s0, reach_w hsz (j := 0) rfl rfl (Or.inr (Or.inl rfl)) s1, reach_l hsz (j := 0) rfl rfl (Or.inl rfl) s2, reach_w hsz (j := 0) rfl rfl (Or.inr (Or.inr rfl)) s3, reach_l hsz (j := 0) rfl rfl (Or.inr rfl) s4⟩
  have rb : Reach b := ⟨reach_w hsz (j := 1) rfl rfl (Or.inl rfl) t0, reach_w hsz (j := 1) rfl rfl (Or.inr (Or.inl rfl)) t1, reach_l hsz (j := 1) rfl rfl (Or.inl rfl) t2, reach_w hsz (j := 1) rfl rfl (Or.inr (Or.inr rfl)) t3, reach_l hsz (j := 1) rfl rfl (Or.inr rfl) t4⟩
  refine (sames_calls x y a b W hH hG ra rb).mono fun e W' ⟨he, hw⟩ => ?_
  subst he
  exact ⟨_, rfl, post_of_law hW' rfl (by kernel_rfl) rfl (by rw [Try.params3]; intro t ht; simp at ht; subst ht; exact ⟨by kernel_rfl, of_decide_eq_true (by kernel_rfl)⟩) hw⟩
end Go.Proofs.Ytljfmmdlcaojmaa.Hi

namespace Go.Proofs.Ytljfmmdlcaojmaa
open Go.ChangeShapes Go.WideShapes Go.ChangeAt Go.RowKit Go.Deep Go.Extern
theorem hierSames_holds : Rows.HierSamesSaid :=
  OpenClaim.holds_of_wide 3 Try.f3 rfl rfl rfl rfl rfl rfl rfl ⟨rfl, rfl, rfl, rfl, rfl⟩ rfl rfl rfl rfl rfl (by kernel_rfl) Try.func3 (by kernel_rfl)
    (of_decide_eq_true (by kernel_rfl)) (by unfold Func.isWrapper; rw [if_neg (of_decide_eq_false (by kernel_rfl))]; exact ⟨rfl, rfl⟩)
    (fun os started H enc _ => Hi.sames_lifted os started H enc)
#print axioms hierSames_holds
end Go.Proofs.Ytljfmmdlcaojmaa
