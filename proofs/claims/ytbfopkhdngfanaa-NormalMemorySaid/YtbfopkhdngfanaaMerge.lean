/- normal.Merge: the arcs of both, one list behind the other, or the error; given what checkBoth answers. -/
import Derived.Test.YtbfopkhdngfanaaConcat
import Derived.Test.YtbfopkhdngfanaaSeenP
import Derived.Deep.RegionHeld
import Derived.Deep.DeepCutAuto
namespace Go.Proofs.Ytbfopkhdngfanaa
open Go.RowKit Go.Extern Go.Sort

attribute [local go_sem] Oper.semAt_some

theorem pair_cells {w : World} {b : Nat} {c0 c1 : Value} {T : TypeId} (h : w.heap[b]? = some (.cells #[c0, c1] T)) :
    w.cell? ⟨b, 0, none⟩ = some c0 ∧ w.cell? ⟨b, 1, none⟩ = some c1 ∧ w.frozen? ⟨b, 0, none⟩ = false ∧ w.frozen? ⟨b, 1, none⟩ = false := by
  simp [World.cell?, World.frozen?, h]

theorem keeps_pair {W : World} {b : Nat} {c : Array Value} {t : TypeId} (h : W.heap[b]? = some (.cells c t)) (ht : t ≠ 83) (u v : Value) : Keeps W ((W.setCell ⟨b, 0, none⟩ u).setCell ⟨b, 1, none⟩ v) := fun d x hd => by
  have hne : d ≠ b := fun e => by rw [e, h] at hd; cases hd; exact ht rfl
  rw [heap_setCell_other _ _ _ _ hne, heap_setCell_other _ _ _ _ hne]
  exact hd

set_option maxRecDepth 100000 in
set_option maxHeartbeats 4000000 in
theorem merge_of (E : Int × List (Int × Int)) (M N : Int) (ao bo : Option Addr) (ac bc : Nat) (xs ys : List (Int × Int × Int)) (w : World)
    (hx : HasArcs w (.slice ao xs.length ac) xs) (hy : HasArcs w (.slice bo ys.length bc) ys) (hxn : ao = none → ac = 0) (hyn : bo = none → bc = 0)
    (hboth : ∀ wx, HasArcs wx (.slice ao xs.length ac) xs → HasArcs wx (.slice bo ys.length bc) ys → Calls Try.prog 26 #[.agg #[.int .i64 M, .slice ao xs.length ac], .agg #[.int .i64 N, .slice bo ys.length bc]] wx fun e w' => ∃ v, e = .returned v ∧ IsTold w' E v ∧ Below wx.heap.size wx w')
    (hE : E = (0, []) → xs.length + ys.length ≤ 262144) :
    Calls Try.prog 9 #[.agg #[.int .i64 M, .slice ao xs.length ac], .agg #[.int .i64 N, .slice bo ys.length bc]] w fun e w' => ∃ K lo n lc v zs, e = .returned (.tuple #[.agg #[.int .i64 K, .slice lo n lc], v]) ∧ OA w.heap.size w' lo n lc zs ∧ zs.length ≤ 262144 ∧ IsTold w' E v ∧ ((E = (0, []) ∧ K = M ∧ zs = xs ++ ys) ∨ (E ≠ (0, []) ∧ K = 0 ∧ zs = [])) ∧ Below w.heap.size w w' := by
  obtain ⟨W0, hW0⟩ : ∃ W0, ((w.alloc (.cells #[.int .i64 M, .slice ao xs.length ac] 24)).alloc (.cells #[.int .i64 N, .slice bo ys.length bc] 24)).alloc (.cells #[.int .i64 0, .slice none 0 0] 24) = W0 := ⟨_, rfl⟩
  have hB0 : Below w.heap.size w W0 := by rw [← hW0]; exact (((Below.refl _ w).alloc (Nat.le_refl _) _).alloc (by simp) _).alloc (by simp; omega) _
  have k0 : W0.heap[w.heap.size]? = some (.cells #[.int .i64 M, .slice ao xs.length ac] 24) := by rw [← hW0, Below.heap_alloc _ _ _ (by simp; omega), Below.heap_alloc _ _ _ (by simp)]; exact heap_new _ _
  have k1 : W0.heap[w.heap.size + 1]? = some (.cells #[.int .i64 N, .slice bo ys.length bc] 24) := by
    rw [← hW0, Below.heap_alloc _ _ _ (by simp)]
    have h := heap_new (w.alloc (.cells #[.int .i64 M, .slice ao xs.length ac] 24)) (.cells #[.int .i64 N, .slice bo ys.length bc] 24)
    simpa using h
  have k2 : W0.heap[w.heap.size + 1 + 1]? = some (.cells #[.int .i64 0, .slice none 0 0] 24) := by
    have h := heap_new ((w.alloc (.cells #[.int .i64 M, .slice ao xs.length ac] 24)).alloc (.cells #[.int .i64 N, .slice bo ys.length bc] 24)) (.cells #[.int .i64 0, .slice none 0 0] 24)
    rw [hW0] at h
    simpa using h
  have HW0 : Hid (((w.alloc (.cells #[.int .i64 M, .slice ao xs.length ac] 24)).alloc (.cells #[.int .i64 N, .slice bo ys.length bc] 24)).alloc (.cells #[.int .i64 0, .slice none 0 0] 24) = W0) := hW0
  have HK : Hid (∀ wx, Below W0.heap.size W0 wx → (wx.cell? ⟨w.heap.size, 0, none⟩ = some (.int .i64 M) ∧ wx.cell? ⟨w.heap.size, 1, none⟩ = some (.slice ao xs.length ac)) ∧ (wx.cell? ⟨w.heap.size + 1, 0, none⟩ = some (.int .i64 N) ∧ wx.cell? ⟨w.heap.size + 1, 1, none⟩ = some (.slice bo ys.length bc)) ∧ wx.heap[w.heap.size + 1 + 1]? = some (.cells #[.int .i64 0, .slice none 0 0] 24) ∧ Below w.heap.size w wx ∧ HasArcs wx (.slice ao xs.length ac) xs ∧ HasArcs wx (.slice bo ys.length bc) ys) := fun wx h => by
    have g0 := (h.block _ (lt_of_get k0)).trans k0
    have g1 := (h.block _ (lt_of_get k1)).trans k1
    have hb := hB0.trans (h.mono hB0.size)
    exact ⟨⟨(pair_cells g0).1, (pair_cells g0).2.1⟩, ⟨(pair_cells g1).1, (pair_cells g1).2.1⟩, (h.block _ (lt_of_get k2)).trans k2, hb, hx.keep hb, hy.keep hb⟩
  have HBO : Hid (Calls Try.prog 26 #[.agg #[.int .i64 M, .slice ao xs.length ac], .agg #[.int .i64 N, .slice bo ys.length bc]] W0 fun e w' => ∃ v, e = .returned v ∧ IsTold w' E v ∧ Below W0.heap.size W0 w') := hboth W0 (HK.out W0 (Below.refl _ _)).2.2.2.2.1 (HK.out W0 (Below.refl _ _)).2.2.2.2.2
  have HE : Hid (E = (0, []) → xs.length + ys.length ≤ 262144) := hE
  have HCC : Hid (∀ wx : World, Below W0.heap.size W0 wx → xs.length + ys.length ≤ 262144 → Calls Try.prog 27 #[.slice (some ⟨wx.heap.size, 0, none⟩) 2 2] (wx.alloc (.cells #[.slice ao xs.length ac, .slice bo ys.length bc] 22)) fun e w' => ∃ lo lc, e = .returned (.slice lo (xs.length + ys.length) lc) ∧ OA w.heap.size w' lo (xs.length + ys.length) lc (xs ++ ys) ∧ Below wx.heap.size wx w') := fun wx h hl => by
    have hb : Below wx.heap.size wx (wx.alloc (.cells #[.slice ao xs.length ac, .slice bo ys.length bc] 22)) := (Below.refl _ wx).alloc (Nat.le_refl _) _
    refine (concat_calls wx.heap.size ao bo ac bc xs ys _ (pair_cells (heap_new _ _)).1 (pair_cells (heap_new _ _)).2.1 ((HK.out wx h).2.2.2.2.1.keep hb) ((HK.out wx h).2.2.2.2.2.keep hb) hxn hyn hl).mono ?_
    rintro e w' ⟨lo, lc, he, ha, hb'⟩
    exact ⟨lo, lc, he, ⟨ha.1, ha.2.base (Nat.le_trans (HK.out wx h).2.2.2.1.size hb.size)⟩, hb.trans (hb'.mono hb.size)⟩
  clear hx hy k0 k1 k2 hB0 hW0 hboth hE hxn hyn
  go_enter Try.func9, Try.ntmps9
  go_wp2_with fail
  rw [HW0.out]
  refine HBO.out.mono ?_
  rintro e w1 ⟨v, rfl, ht1, hb1⟩
  have HB1 : Hid (Below W0.heap.size W0 w1) := hb1
  have HT1 : Hid (IsTold w1 E v) := ht1
  have HK1 : Hid (w1.heap[w.heap.size + 1 + 1]? = some (.cells #[.int .i64 0, .slice none 0 0] 24)) := (HK.out w1 hb1).2.2.1
  obtain ⟨⟨c0, c1⟩, ⟨d0, d1⟩, g2, _, _, _⟩ := HK.out w1 hb1
  obtain ⟨b0, b1, y0, y1⟩ := pair_cells g2
  have hs2 : w.heap.size + 1 + 1 < w1.heap.size := lt_of_get g2
  have hs1 : w.heap.size + 1 < w1.heap.size := by omega
  have hs0 : w.heap.size < w1.heap.size := by omega
  clear hb1 g2
  rcases ht1 with ⟨hg, hv⟩ | ⟨hg, hv⟩
  · subst hv
    have HG : Hid (E = (0, [])) := hg
    have HCX : Hid (Calls Try.prog 27 #[.slice (some ⟨w1.drew.heap.size, 0, none⟩) 2 2] (w1.drew.alloc (.cells #[.slice ao xs.length ac, .slice bo ys.length bc] 22)) fun e w' => ∃ lo lc, e = .returned (.slice lo (xs.length + ys.length) lc) ∧ OA w.heap.size w' lo (xs.length + ys.length) lc (xs ++ ys) ∧ Below w1.drew.heap.size w1.drew w') := HCC.out w1.drew HB1.out.drew (HE.out hg)
    clear hg
    have n0 : ¬ w.heap.size = w.heap.size + 1 + 1 := by omega
    have n1 : ¬ w.heap.size + 1 + 1 = w.heap.size := by omega
    have n2 : ¬ w.heap.size + 1 = w.heap.size + 1 + 1 := by omega
    have n3 : ¬ w.heap.size + 1 + 1 = w.heap.size + 1 := by omega
    go_upto_region 4 with fail
    go_cut [5] (fun c wx => c = .nilIface ∧ ∃ w3 lo lc, OA w.heap.size w3 lo (xs.length + ys.length) lc (xs ++ ys) ∧ Below w1.heap.size w1 w3 ∧ wx = (w3.setCell ⟨w.heap.size + 1 + 1, 0, none⟩ (.int .i64 M)).setCell ⟨w.heap.size + 1 + 1, 1, none⟩ (.slice lo (xs.length + ys.length) lc))
    case first =>
      go_region_held (fun w' => w'.cell? ⟨w.heap.size, 0, none⟩ = some (.int .i64 M) ∧ w'.cell? ⟨w.heap.size, 1, none⟩ = some (.slice ao xs.length ac) ∧ w'.cell? ⟨w.heap.size + 1, 0, none⟩ = some (.int .i64 N) ∧ w'.cell? ⟨w.heap.size + 1, 1, none⟩ = some (.slice bo ys.length bc)) (go_keep) (first
        | (go_at_call 27; refine HCX.out.mono ?_; rintro e w3 ⟨lo, lc, rfl, ha3, hb3⟩; have HA3 : Hid (OA w.heap.size w3 lo (xs.length + ys.length) lc (xs ++ ys)) := ha3; have HB3 : Hid (Below w1.heap.size w1 w3) := (Below.refl _ w1).drew.trans hb3; obtain ⟨⟨q0, q1⟩, ⟨q2, q3⟩, g3, _, _, _⟩ := HK.out w3 (HB1.out.trans (HB3.out.mono HB1.out.size)); obtain ⟨r0, r1, z0, z1⟩ := pair_cells g3; have hs3 : w.heap.size + 1 + 1 < w3.heap.size := lt_of_get g3; clear ha3 hb3 g3))
      all_goals
        go_wp2_with fail
        go_meet
        exact ⟨rfl, w3, lo, lc, HA3.out, HB3.out, rfl⟩
    case rest =>
      obtain ⟨hc, w3, lo, lc, ha3, hb3, hwc⟩ := hcut
      subst hc
      subst hwc
      obtain ⟨_, _, g3, hbw, _, _⟩ := HK.out w3 (HB1.out.trans (hb3.mono HB1.out.size))
      obtain ⟨r0, r1, z0, z1⟩ := pair_cells g3
      have HA : Hid (OA w.heap.size w3 lo (xs.length + ys.length) lc (xs ++ ys)) := ha3
      have HR : Hid (w3.heap[w.heap.size + 1 + 1]? = some (.cells #[.int .i64 0, .slice none 0 0] 24)) := g3
      have HBW : Hid (Below w.heap.size w w3) := hbw
      clear ha3 hb3 g3 hbw
      go_wp2
      refine bodyPost_ret (v := .tuple #[.agg #[.int .i64 M, .slice lo (xs.length + ys.length) lc], .nilIface]) (by simp [results, Try.results9, go_sem, r0, r1]) rfl ⟨M, lo, xs.length + ys.length, lc, .nilIface, xs ++ ys, rfl, ⟨?_, ?_⟩, ?_, Or.inl ⟨HG.out, rfl⟩, Or.inl ⟨HG.out, rfl, rfl⟩, ?_⟩
      · obtain ⟨ao', cap', e, hc⟩ := HA.out.1
        refine ⟨ao', cap', e, fun j a hj => ?_⟩
        obtain ⟨b', off', ea, hl', h0, h1, h2⟩ := hc j a hj
        have hb' : b' ≠ w.heap.size + 1 + 1 := fun e => by
          subst e
          simp only [World.cell?, HR.out] at h2
          rw [if_neg (by simp), Array.getElem?_eq_none (by simp)] at h2
          cases h2
        refine ⟨b', off', ea, by simp; exact hl', ?_, ?_, ?_⟩
        · rw [World.cell?_setCell_other _ _ _ _ (by intro e; exact hb' (congrArg Addr.block e).symm), World.cell?_setCell_other _ _ _ _ (by intro e; exact hb' (congrArg Addr.block e).symm)]; exact h0
        · rw [World.cell?_setCell_other _ _ _ _ (by intro e; exact hb' (congrArg Addr.block e).symm), World.cell?_setCell_other _ _ _ _ (by intro e; exact hb' (congrArg Addr.block e).symm)]; exact h1
        · rw [World.cell?_setCell_other _ _ _ _ (by intro e; exact hb' (congrArg Addr.block e).symm), World.cell?_setCell_other _ _ _ _ (by intro e; exact hb' (congrArg Addr.block e).symm)]; exact h2
      · exact HA.out.2.far HR.out (by decide) (fun k hk => (heap_setCell_other _ _ _ _ hk).trans (heap_setCell_other _ _ _ _ hk))
      · rw [List.length_append]; exact HE.out HG.out
      · exact (HBW.out.setCell (p := ⟨w.heap.size + 1 + 1, 0, none⟩) (by simp; omega) _).setCell (p := ⟨w.heap.size + 1 + 1, 1, none⟩) (by simp; omega) _
  · obtain ⟨T, x, hsh⟩ : ∃ T x, v = .iface T x := by
      cases hps : E.2 with
      | nil => rw [hps] at hv; exact ⟨_, _, hv⟩
      | cons p r => rw [hps] at hv; obtain ⟨b, u, e, _⟩ := hv; exact ⟨_, _, e⟩
    subst hsh
    have HGN : Hid (E ≠ (0, [])) := fun e => hg (by rw [e])
    have HBW : Hid (Below w.heap.size w w1) := (HK.out w1 HB1.out).2.2.2.1
    clear hg hv
    go_wp2
    refine bodyPost_ret (v := .tuple #[.agg #[.int .i64 0, .slice none 0 0], .iface T x]) (by simp [results, Try.results9, go_sem, b0, b1]) rfl ⟨0, none, 0, 0, .iface T x, [], rfl, oa_nil _ _, Nat.zero_le _, ?_, Or.inr ⟨HGN.out, rfl, rfl⟩, ?_⟩
    · exact HT1.out.keep (keeps_pair HK1.out (by decide) _ _)
    · exact (HBW.out.setCell (p := ⟨w.heap.size + 1 + 1, 0, none⟩) (by simp; omega) _).setCell (p := ⟨w.heap.size + 1 + 1, 1, none⟩) (by simp; omega) _
end Go.Proofs.Ytbfopkhdngfanaa
