/- HierTurns holds: for every hierarchy the law answers true and its argument reads as it did. No condition beside the row's own. -/
import Derived.Test.YtmofokjkfmgglaaHtD
import Derived.Test.YtmofokjkfmgglaaHrW
import Derived.SizedLaws
namespace Go.Proofs.Ytmofokjkfmgglaa.Hi
open Go.ChangeShapes Go.WideShapes Go.ChangeAt Go.RowKit Go.Deep Go.Extern

attribute [local go_sem] Oper.semAt_some

set_option maxRecDepth 100000 in
set_option maxHeartbeats 4000000 in
theorem turns_far (v : HV) (h : Hr) (w : World) (hH : HasH w v h) (hb1 : h.up.length ≤ 1152921504606846976) (hb2 : h.dn.length ≤ 1152921504606846976) (hb3 : h.node.length ≤ 1152921504606846976) (hg : greatB h = true ∨ chk h ≠ (0, [])) :
    Calls Try.prog 4 #[hvl v h] w fun e w' => e = .returned (.bool true) ∧ Below w.heap.size w w' := by
  obtain ⟨z, hz⟩ : ∃ z, w.heap.size = z := ⟨_, rfl⟩
  obtain ⟨W0, hW0⟩ : ∃ W0, w.alloc (.cells (cellsH v h) 25) = W0 := ⟨_, rfl⟩
  have h0 : ∀ wx, Below W0.heap.size W0 wx → wx.heap[z]? = some (.cells (cellsH v h) 25) ∧ HasH wx v h ∧ Below w.heap.size w wx := fun wx hx => by
    have h1 : W0.heap[z]? = some (.cells (cellsH v h) 25) := by rw [← hW0, ← hz]; exact heap_newW _ _
    have h2 : Below w.heap.size w W0 := by rw [← hW0]; exact (Below.refl _ _).alloc (Nat.le_refl _) _
    have h3 := h2.trans (hx.mono h2.size)
    exact ⟨(hx.block _ (some_lt h1)).trans h1, hH.keep h3, h3⟩
  have HW0 : Hid (w.alloc (.cells (cellsH v h) 25) = W0) := hW0
  have H0 : Hid (type_of% h0) := h0
  have HGR : Hid (∀ wx, Below W0.heap.size W0 wx → Calls Try.prog 11 #[hvl v h] wx fun e w' => e = .returned (.bool (greatB h)) ∧ Below wx.heap.size wx w') := fun wx _ => great_calls v h wx hb1 hb2
  have HCK : Hid (∀ wx, Below W0.heap.size W0 wx → Calls Try.prog 13 #[hvl v h] wx fun e w' => ∃ u, e = .returned u ∧ IsTold w' (chk h) u ∧ Below wx.heap.size wx w') := fun wx hx => check_calls v h wx (h0 wx hx).2.1 hb1 hb2 hb3
  have HTN : Hid (∀ wx, Below W0.heap.size W0 wx → chk h ≠ (0, []) → Calls Try.prog 12 #[hvl v h] wx fun e w' => ∃ T x, e = .returned (.tuple #[.agg #[.slice none 0 0, .slice none 0 0, .slice none 0 0, .slice none 0 0, .slice none 0 0], .iface T x]) ∧ Below wx.heap.size wx w') := fun wx hx hc => turn_bad v h wx (h0 wx hx).2.1 hb1 hb2 hb3 hc
  have HF5 : Hid (∀ wx, Below W0.heap.size W0 wx → wx.cell? ⟨z, 0, none⟩ = some (.slice v.no h.node.length v.nc) ∧ wx.cell? ⟨z, 1, none⟩ = some (.slice v.uo h.upF.length v.uc) ∧ wx.cell? ⟨z, 2, none⟩ = some (.slice v.ul h.up.length v.ulc) ∧ wx.cell? ⟨z, 3, none⟩ = some (.slice v.wo h.dnF.length v.wc) ∧ wx.cell? ⟨z, 4, none⟩ = some (.slice v.dl h.dn.length v.dlc)) := fun wx hx => five_cells (H0.out wx hx).1
  have HG : Hid (greatB h = true ∨ chk h ≠ (0, [])) := hg
  clear hW0 h0 hg hH
  unfold hvl at HGR HCK HTN ⊢
  unfold cellsH at HW0
  go_enter Try.func4, Try.ntmps4
  go_wp2_with fail
  rw [HW0.out]
  refine (awake10_calls W0).mono ?_
  rintro e w1 ⟨rfl, hb1⟩
  have HB1 : Hid (Below W0.heap.size W0 w1) := hb1
  obtain ⟨c0, c1, c2, c3, c4⟩ := HF5.out w1 hb1
  clear hb1
  go_wp2_with fail
  refine (HGR.out w1 HB1.out).mono ?_
  rintro e w2 ⟨rfl, hb2⟩
  have HB2 : Hid (Below W0.heap.size W0 w2) := btrH HB1.out hb2
  obtain ⟨d0, d1, d2, d3, d4⟩ := HF5.out w2 HB2.out
  clear hb2 c0 c1 c2 c3 c4
  by_cases hgr : greatB h = true
  · rw [hgr]
    go_wp2
    go_ret
    exact ⟨rfl, (H0.out w2 HB2.out).2.2⟩
  · have hgr' : greatB h = false := by simpa using hgr
    have HC : Hid (chk h ≠ (0, [])) := HG.out.resolve_left hgr
    rw [hgr']
    clear hgr hgr'
    go_wp2_with fail
    refine (HTN.out w2 HB2.out HC.out).mono ?_
    rintro e w3 ⟨tt, xx, rfl, hb3⟩
    have HB3 : Hid (Below W0.heap.size W0 w3) := btrH HB2.out hb3
    clear hb3 d0 d1 d2 d3 d4
    go_upto_region 6 with fail
    obtain ⟨y, hy⟩ : ∃ y, w3.heap.size = y := ⟨_, rfl⟩
    obtain ⟨W4, hW4⟩ : ∃ W4, w3.alloc (.cells #[.slice none 0 0, .slice none 0 0, .slice none 0 0, .slice none 0 0, .slice none 0 0] 25) = W4 := ⟨_, rfl⟩
    have H4 : Hid (∀ wx, Below W4.heap.size W4 wx → wx.heap[y]? = some (.cells #[.slice none 0 0, .slice none 0 0, .slice none 0 0, .slice none 0 0, .slice none 0 0] 25) ∧ Below W0.heap.size W0 wx) := fun wx hx => by
      have g1 : W4.heap[y]? = some (.cells #[.slice none 0 0, .slice none 0 0, .slice none 0 0, .slice none 0 0, .slice none 0 0] 25) := by rw [← hW4, ← hy]; exact heap_newW _ _
      have g2 : Below w3.heap.size w3 W4 := by rw [← hW4]; exact (Below.refl _ _).alloc (Nat.le_refl _) _
      exact ⟨(hx.block _ (some_lt g1)).trans g1, btrH HB3.out (btrH g2 hx)⟩
    rw [hW4, hy]
    clear hy hW4
    obtain ⟨c0, c1, c2, c3, c4⟩ := HF5.out W4 (H4.out W4 (Below.refl _ _)).2
    go_wp2_with fail
    refine (HCK.out W4 (H4.out W4 (Below.refl _ _)).2).mono ?_
    rintro e w5 ⟨u, rfl, ht, hb5⟩
    obtain ⟨t2, x2, hu1, _⟩ := isTold_some ht HC.out
    subst hu1
    have HB5 : Hid (Below W4.heap.size W4 w5) := hb5
    obtain ⟨d0, d1, d2, d3, d4⟩ := five_cells (H4.out w5 hb5).1
    clear hb5 ht c0 c1 c2 c3 c4
    go_wp2
    go_ret
    exact ⟨rfl, (H0.out w5 (H4.out w5 HB5.out).2).2.2⟩
/-- the law, whatever the hierarchy. -/
theorem turns_calls (v : HV) (h : Hr) (w : World) (hH : HasH w v h) (hb1 : h.up.length ≤ 1152921504606846976) (hb2 : h.dn.length ≤ 1152921504606846976) (hb3 : h.node.length ≤ 1152921504606846976) :
    Calls Try.prog 4 #[hvl v h] w fun e w' => e = .returned (.bool true) ∧ Below w.heap.size w w' := by
  by_cases hc : chk h = (0, [])
  · by_cases hg : greatB h = true
    · exact turns_far v h w hH hb1 hb2 hb3 (Or.inl hg)
    · exact turns_good v h w hH hc (by simpa using hg)
  · exact turns_far v h w hH hb1 hb2 hb3 (Or.inr hc)

set_option maxRecDepth 100000 in
theorem turns_lifted (os : Os) (started : os.Started) (H : Type) (enc : TypeId × Value → H) :
    ReturnsInHanded {} Try.checked os 4 .any (Rows.hierTurnsSpec.pre6 enc Try.prog Try.f4 Rows.hierTurnsRow.domain false) (Rows.hierTurnsSpec.post enc Try.prog Try.f4 false true false false) := by
  refine returnsInHanded_of_change_sized (C := Try.checked) Try.own started (by kernel_rfl) Try.func4
    (ChangeSpec.witness6 (enc := enc) (C := Try.checked) false ⟨#[], #[.agg #[.slice none 0 0, .slice none 0 0, .slice none 0 0, .slice none 0 0, .slice none 0 0]], []⟩ 8 (by kernel_rfl) (by kernel_rfl) (by kernel_rfl) (by kernel_rfl)) ?_
  intro W base args ds gs before hval0 hW _ hsz0 _
  have hval : ∀ (j : Nat) t v, Try.f4.params[j]? = some t → args[j]? = some v → Value.okWide Try.prog W .any base t v := hval0
  have hsz : (DataW.weightsEach Try.prog (Try.f4.params.toList ++ Rows.hierTurnsSpec.plain.varTypes Try.prog) (ds ++ gs)).all (· ≤ reachBytes) = true := hsz0
  have hW' := hW
  obtain ⟨p, q, hA0, hV, rfl, hfz, hnd⟩ := hW
  have hA : DataW.TrodAll enc Try.prog W 0 (fun _ => true) true Try.f4.params.toList args.toList ds p := hA0
  rw [Try.params4] at hA hval hsz
  obtain ⟨v0, d0, rfl, rfl, hr0⟩ := trodAll_one hA
  obtain ⟨rfl, rfl⟩ := trodVars_none hV
  obtain ⟨x, a, e0, e1, e2, e3, e4, rfl, hH, rfl, r0, r2, r4, _, _⟩ := hier_open (hval 0 25 v0 rfl rfl) hr0
  have n0 := reach_w hsz (j := 0) rfl rfl (Or.inl rfl) r0
  have n2 := reach_l hsz (j := 0) rfl rfl (Or.inl rfl) r2
  have n4 := reach_l hsz (j := 0) rfl rfl (Or.inr rfl) r4
  refine (turns_calls x a W hH (by omega) (by omega) (by omega)).mono fun e W' ⟨he, hw⟩ => ?_
  subst he
  exact ⟨_, rfl, post_of_law hW' rfl (by kernel_rfl) rfl (by rw [Try.params4]; intro t ht; simp at ht; subst ht; exact ⟨by kernel_rfl, of_decide_eq_true (by kernel_rfl)⟩) hw⟩

end Go.Proofs.Ytmofokjkfmgglaa.Hi

namespace Go.Proofs.Ytmofokjkfmgglaa
open Go.ChangeShapes Go.WideShapes Go.ChangeAt Go.RowKit Go.Deep Go.Extern
theorem hierTurns_holds : Rows.HierTurnsSaid :=
  OpenClaim.holds_of_wide 4 Try.f4 rfl rfl rfl rfl rfl rfl rfl ⟨rfl, rfl, rfl, rfl, rfl⟩ rfl rfl rfl rfl rfl (by kernel_rfl) Try.func4 (by kernel_rfl)
    (of_decide_eq_true (by kernel_rfl)) (by unfold Func.isWrapper; rw [if_neg (of_decide_eq_false (by kernel_rfl))]; exact ⟨rfl, rfl⟩)
    (fun os started H enc _ => Hi.turns_lifted os started H enc)
#print axioms hierTurns_holds
end Go.Proofs.Ytmofokjkfmgglaa
