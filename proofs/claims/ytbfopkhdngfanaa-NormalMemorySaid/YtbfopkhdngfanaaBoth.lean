/- normal.checkBoth: the error of two graphs that are to be joined. -/
import Derived.Test.YtbfopkhdngfanaaFirstP
import Derived.Deep.DeepCutAuto
namespace Go.Proofs.Ytbfopkhdngfanaa
open Go.RowKit Go.Extern

attribute [local go_sem] Oper.semAt_some

/-- the error of two graphs that are to be joined. -/
def bothErr (M N : Int) (xs ys : List (Int × Int × Int)) : Int × List (Int × Int) :=
  if graphErr M xs ≠ (0, []) then graphErr M xs else if graphErr N ys ≠ (0, []) then graphErr N ys else if M ≠ N then (1, []) else if 262144 < xs.length + ys.length then (9, []) else (0, [])
theorem told_face {w : World} {e : Int × List (Int × Int)} {v : Value} (h : IsTold w e v) : IsFace v := by
  rcases h with ⟨_, rfl⟩ | ⟨_, h⟩
  · exact Or.inl rfl
  · cases hps : e.2 with
    | nil => rw [hps] at h; exact Or.inr ⟨_, _, h⟩
    | cons p r => rw [hps] at h; obtain ⟨b, u, e', _⟩ := h; exact Or.inr ⟨_, _, e'⟩
theorem face_cells {v : Value} (h : IsFace v) : v.cells = #[v] := by
  rcases h with rfl | ⟨T, x, rfl⟩ <;> rfl
theorem told_nil {w : World} {e : Int × List (Int × Int)} (h : IsTold w e .nilIface) : e = (0, []) := by
  rcases h with ⟨h, _⟩ | ⟨_, h⟩
  · exact h
  · cases hps : e.2 with
    | nil => rw [hps] at h; cases h
    | cons p r => rw [hps] at h; obtain ⟨b, u, e', _⟩ := h; cases e'
theorem told_some {w : World} {e : Int × List (Int × Int)} {T : TypeId} {x : Value} (h : IsTold w e (.iface T x)) : e ≠ (0, []) := by
  rcases h with ⟨_, h⟩ | ⟨h, _⟩
  · cases h
  · intro e'; rw [e'] at h; exact h rfl

theorem graph_short {N : Int} {xs : List (Int × Int × Int)} (h : graphErr N xs = (0, [])) : xs.length ≤ 262144 := by
  unfold graphErr at h
  split at h
  · simp at h
  · omega

set_option maxRecDepth 100000 in
set_option maxHeartbeats 40000000 in
theorem both_calls (M N : Int) (ao bo : Option Addr) (ac bc : Nat) (xs ys : List (Int × Int × Int)) (w : World) (hx : HasArcs w (.slice ao xs.length ac) xs) (hy : HasArcs w (.slice bo ys.length bc) ys) (hmx : xs.length ≤ maxLen) (hmy : ys.length ≤ maxLen) :
    Calls Try.prog 26 #[.agg #[.int .i64 M, .slice ao xs.length ac], .agg #[.int .i64 N, .slice bo ys.length bc]] w fun e w' => ∃ v, e = .returned v ∧ IsTold w' (bothErr M N xs ys) v ∧ Below w.heap.size w w' := by
  obtain ⟨W0, hW0⟩ : ∃ W0, (w.alloc (.cells #[.int .i64 M, .slice ao xs.length ac] 24)).alloc (.cells #[.int .i64 N, .slice bo ys.length bc] 24) = W0 := ⟨_, rfl⟩
  have hB0 : Below w.heap.size w W0 := by rw [← hW0]; exact ((Below.refl _ w).alloc (Nat.le_refl _) _).alloc (by simp) _
  have k0 : W0.heap[w.heap.size]? = some (.cells #[.int .i64 M, .slice ao xs.length ac] 24) := by rw [← hW0, Below.heap_alloc _ _ _ (by simp)]; exact heap_new _ _
  have k1 : W0.heap[w.heap.size + 1]? = some (.cells #[.int .i64 N, .slice bo ys.length bc] 24) := by
    have h := heap_new (w.alloc (.cells #[.int .i64 M, .slice ao xs.length ac] 24)) (.cells #[.int .i64 N, .slice bo ys.length bc] 24)
    rw [hW0] at h
    simpa using h
  have HW0 : Hid ((w.alloc (.cells #[.int .i64 M, .slice ao xs.length ac] 24)).alloc (.cells #[.int .i64 N, .slice bo ys.length bc] 24) = W0) := hW0
  have HK : Hid (∀ wx, Below W0.heap.size W0 wx → wx.cell? ⟨w.heap.size, 0, none⟩ = some (.int .i64 M) ∧ wx.cell? ⟨w.heap.size, 1, none⟩ = some (.slice ao xs.length ac) ∧ wx.cell? ⟨w.heap.size + 1, 0, none⟩ = some (.int .i64 N) ∧ wx.cell? ⟨w.heap.size + 1, 1, none⟩ = some (.slice bo ys.length bc) ∧ w.heap.size + 1 < wx.heap.size ∧ Below w.heap.size w wx) := fun wx h => by
    have g0 := (h.block _ (lt_of_get k0)).trans k0
    have g1 := (h.block _ (lt_of_get k1)).trans k1
    exact ⟨(cell_two g0).1, (cell_two g0).2.1, (cell_two g1).1, (cell_two g1).2.1, lt_of_get g1, hB0.trans (h.mono hB0.size)⟩
  have HCG : Hid (∀ (N' : Int) (o : Option Addr) (c : Nat) (zs : List (Int × Int × Int)) (wx : World), ((HasArcs wx (.slice o zs.length c) zs ∧ zs.length ≤ maxLen) ∧ graphErr N' zs = (0, [])) → Calls Try.prog 17 #[.agg #[.int .i64 N', .slice o zs.length c]] wx fun e w' => e = .returned .nilIface ∧ IsTold w' (graphErr N' zs) .nilIface ∧ Below wx.heap.size wx w') := fun N' o c zs wx h => (check_calls N' o c zs wx h.1.1 h.1.2).mono fun e w' ⟨v, he, ht, hb⟩ => by
    rcases ht with ⟨h1, h2⟩ | ⟨h1, _⟩
    · subst h2; exact ⟨he, Or.inl ⟨h1, rfl⟩, hb⟩
    · rw [h.2] at h1; exact absurd rfl h1
  have HCB : Hid (∀ (N' : Int) (o : Option Addr) (c : Nat) (zs : List (Int × Int × Int)) (wx : World), ((HasArcs wx (.slice o zs.length c) zs ∧ zs.length ≤ maxLen) ∧ graphErr N' zs ≠ (0, [])) → Calls Try.prog 17 #[.agg #[.int .i64 N', .slice o zs.length c]] wx fun e w' => ∃ T x, e = .returned (.iface T x) ∧ IsTold w' (graphErr N' zs) (.iface T x) ∧ Below wx.heap.size wx w') := fun N' o c zs wx h => (check_calls N' o c zs wx h.1.1 h.1.2).mono fun e w' ⟨v, he, ht, hb⟩ => by
    rcases told_face ht with h1 | ⟨T, x, h1⟩
    · subst h1; exact absurd (told_nil ht) h.2
    · subst h1; exact ⟨T, x, he, ht, hb⟩
  have HXA : Hid (∀ wx, Below W0.heap.size W0 wx → HasArcs wx (.slice ao xs.length ac) xs ∧ xs.length ≤ maxLen) := fun wx h => ⟨hx.keep (HK.out wx h).2.2.2.2.2, hmx⟩
  have HXB : Hid (∀ wx, Below W0.heap.size W0 wx → HasArcs wx (.slice bo ys.length bc) ys ∧ ys.length ≤ maxLen) := fun wx h => ⟨hy.keep (HK.out wx h).2.2.2.2.2, hmy⟩
  have HF : Hid (∀ (v0 v1 : Value) (wx : World), IsFace v0 → IsFace v1 → Calls Try.prog 41 #[.slice (some ⟨wx.heap.size, 0, none⟩) 2 2] (wx.alloc (.cells #[v0, v1] 31)) fun e w' => e = .returned (firstOf v0 v1) ∧ w' = wx.alloc (.cells #[v0, v1] 31)) := fun v0 v1 wx a3 a4 => first2_calls wx.heap.size v0 v1 _ (cell_two (heap_new _ _)).1 (cell_two (heap_new _ _)).2.1 a3 a4
  have HGA : Hid (graphErr M xs = (0, []) ∨ graphErr M xs ≠ (0, [])) := Classical.em _
  have HGB : Hid (graphErr N ys = (0, []) ∨ graphErr N ys ≠ (0, [])) := Classical.em _
  unfold maxLen at hmx hmy
  clear hx hy k0 k1 hB0 hW0
  go_enter Try.func26, Try.ntmps26
  go_upto_region 1 with fail
  rw [HW0.out]
  have c0 := (HK.out W0 (Below.refl _ _)).1
  have c1 := (HK.out W0 (Below.refl _ _)).2.1
  have c2 := (HK.out W0 (Below.refl _ _)).2.2.1
  have c3 := (HK.out W0 (Below.refl _ _)).2.2.2.1
  have cs := (HK.out W0 (Below.refl _ _)).2.2.2.2.1
  go_cut [5] (fun c wx => ∃ v0 v1, c = firstOf v0 v1 ∧ IsTold wx (graphErr M xs) v0 ∧ IsTold wx (graphErr N ys) v1 ∧ Below W0.heap.size W0 wx)
  case first =>
    rcases HGA.out with hga | hga <;> rcases HGB.out with hgb | hgb
    all_goals
      have HA : Hid _ := hga
      have HB : Hid _ := hgb
      clear hga hgb
      go_region_with (first
        | (go_at_call 41; refine (HF.out _ _ _ (told_face HT3.out) (told_face HT2.out)).mono ?_; rintro e w3 ⟨rfl, hw3⟩; subst hw3)
        | (go_at_call 17; refine (HCG.out _ _ _ _ _ ?_).mono ?_; exact ⟨HXA.out _ (Below.refl _ _).drew, HA.out⟩; rintro e w1 ⟨rfl, ht1, hb1⟩; have HB1 : Hid (Below W0.heap.size W0 w1) := (Below.refl _ W0).drew.trans hb1; have HT1 : Hid (IsTold w1 (graphErr M xs) _) := ht1; obtain ⟨d0, d1, d2, d3, ds, _⟩ := HK.out w1 HB1.out; clear hb1 ht1)
        | (go_at_call 17; refine (HCB.out _ _ _ _ _ ?_).mono ?_; exact ⟨HXA.out _ (Below.refl _ _).drew, HA.out⟩; rintro e w1 ⟨T0, x0, rfl, ht1, hb1⟩; have HB1 : Hid (Below W0.heap.size W0 w1) := (Below.refl _ W0).drew.trans hb1; have HT1 : Hid (IsTold w1 (graphErr M xs) _) := ht1; obtain ⟨d0, d1, d2, d3, ds, _⟩ := HK.out w1 HB1.out; clear hb1 ht1)
        | (go_at_call 17; refine (HCG.out _ _ _ _ _ ?_).mono ?_; exact ⟨HXB.out _ HB1.out, HB.out⟩; rintro e w2 ⟨rfl, ht2, hb2⟩; have HB2 : Hid (Below W0.heap.size W0 w2) := HB1.out.trans (hb2.mono HB1.out.size); have HT2 : Hid (IsTold w2 (graphErr N ys) _) := ht2; have HT3 : Hid (IsTold w2 (graphErr M xs) _) := HT1.out.keep (Below.keeps hb2); obtain ⟨e0, e1, e2, e3, es, _⟩ := HK.out w2 HB2.out; clear hb2 ht2)
        | (go_at_call 17; refine (HCB.out _ _ _ _ _ ?_).mono ?_; exact ⟨HXB.out _ HB1.out, HB.out⟩; rintro e w2 ⟨T1, x1, rfl, ht2, hb2⟩; have HB2 : Hid (Below W0.heap.size W0 w2) := HB1.out.trans (hb2.mono HB1.out.size); have HT2 : Hid (IsTold w2 (graphErr N ys) _) := ht2; have HT3 : Hid (IsTold w2 (graphErr M xs) _) := HT1.out.keep (Below.keeps hb2); obtain ⟨e0, e1, e2, e3, es, _⟩ := HK.out w2 HB2.out; clear hb2 ht2))
    all_goals (go_wp2_with fail; go_meet; refine ⟨_, _, rfl, HT3.out.keep (Below.keeps ?_), HT2.out.keep (Below.keeps ?_), ?_⟩)
    all_goals first
      | exact (Below.refl _ _).alloc (Nat.le_refl _) _
      | exact HB2.out.trans (((Below.refl _ _).alloc (Nat.le_refl _) _).mono HB2.out.size)
  case rest =>
    obtain ⟨v0, v1, hc, ht0, ht1, hb⟩ := hcut
    subst hc
    have HT0 : Hid (IsTold wc (graphErr M xs) v0) := ht0
    have HT1 : Hid (IsTold wc (graphErr N ys) v1) := ht1
    have HBC : Hid (Below w.heap.size w wc) := (HK.out wc hb).2.2.2.2.2
    obtain ⟨d0, d1, d2, d3, ds, _⟩ := HK.out wc hb
    clear ht0 ht1 hb c0 c1 c2 c3 cs
    generalize wc = w1 at *
    rcases told_face HT0.out with h | ⟨T, x, h⟩
    · subst h
      have HG0 : Hid (graphErr M xs = (0, [])) := told_nil HT0.out
      rcases told_face HT1.out with h | ⟨T, x, h⟩
      · subst h
        have HG1 : Hid (graphErr N ys = (0, [])) := told_nil HT1.out
        have hf : firstOf .nilIface .nilIface = .nilIface := rfl
        rw [hf]
        have hlx := (graph_short HG0.out)
        have hly := (graph_short HG1.out)
        by_cases hmn : M = N
        · by_cases hlen : 262144 < xs.length + ys.length
          · have HE : Hid (bothErr M N xs ys = (9, [])) := by show _ = _; unfold bothErr; rw [if_neg (by simp [HG0.out]), if_neg (by simp [HG1.out]), if_neg (by simp [hmn]), if_pos hlen]
            subst hmn
            go_wp2
            go_ret
            exact ⟨_, rfl, by rw [HE.out]; exact Or.inr ⟨by decide, rfl⟩, HBC.out⟩
          · have HE : Hid (bothErr M N xs ys = (0, [])) := by show _ = _; unfold bothErr; rw [if_neg (by simp [HG0.out]), if_neg (by simp [HG1.out]), if_neg (by simp [hmn]), if_neg hlen]
            subst hmn
            go_wp2
            go_ret
            exact ⟨_, rfl, by rw [HE.out]; exact Or.inl ⟨rfl, rfl⟩, HBC.out⟩
        · have HE : Hid (bothErr M N xs ys = (1, [])) := by show _ = _; unfold bothErr; rw [if_neg (by simp [HG0.out]), if_neg (by simp [HG1.out]), if_pos hmn]
          go_wp2
          go_ret
          exact ⟨_, rfl, by rw [HE.out]; exact Or.inr ⟨by decide, rfl⟩, HBC.out⟩
      · subst h
        have HE : Hid (bothErr M N xs ys = graphErr N ys) := by show _ = _; unfold bothErr; rw [if_neg (by simp [HG0.out]), if_pos (told_some HT1.out)]
        have hf : firstOf .nilIface (.iface T x) = .iface T x := rfl
        rw [hf]
        go_wp2
        go_ret
        exact ⟨_, rfl, by rw [HE.out]; exact HT1.out, HBC.out⟩
    · subst h
      have HE : Hid (bothErr M N xs ys = graphErr M xs) := by show _ = _; unfold bothErr; rw [if_pos (told_some HT0.out)]
      have hf : firstOf (.iface T x) v1 = .iface T x := rfl
      rw [hf]
      go_wp2
      go_ret
      exact ⟨_, rfl, by rw [HE.out]; exact HT0.out, HBC.out⟩
end Go.Proofs.Ytbfopkhdngfanaa
