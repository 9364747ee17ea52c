/- What Contract's Puts make of the arcs (mathematics; plain seat; OneZ as in Sk8, which is the Door's). A node leaves a graph, its ways in its place: walks between other nodes are as short (mathematics; plain seat). The overlay's contraction keeps walks as short. (Mathematics; plain seat.) The graph's own distances, and those of the arcs as a law tells them (mathematics; plain seat). -/
import Derived.Test.YtbkclhaonbjobaaGreatQyX
import Derived.Test.YtbkclhaonbjobaaGreatQpX
namespace Go.Proofs.YtbkclhaonbjobaaGreat.Wt
open Go Go.RowKit Go.Extern Go.Deep

/-- one arc at most for each pair. -/
def OneZ (zs : List A4) : Prop := zs.Pairwise fun a b => ¬ (a.1 = b.1 ∧ a.2.1 = b.2.1)
theorem one_eq : ∀ {zs : List A4}, OneZ zs → ∀ {a b : A4}, a ∈ zs → b ∈ zs → a.1 = b.1 ∧ a.2.1 = b.2.1 → a = b
  | [], _, _, _, ha, _, _ => by cases ha
  | x :: r, h, a, b, ha, hb, e => by
    obtain ⟨h1, h2⟩ := List.pairwise_cons.1 h
    rcases List.mem_cons.1 ha with ea | ha9
    · rcases List.mem_cons.1 hb with eb | hb9
      · exact ea.trans eb.symm
      · exact absurd (ea ▸ e) (h1 b hb9)
    · rcases List.mem_cons.1 hb with eb | hb9
      · exact absurd (show x.1 = a.1 ∧ x.2.1 = a.2.1 from eb ▸ ⟨e.1.symm, e.2.symm⟩) (h1 a ha9)
      · exact one_eq h2 ha9 hb9 e
theorem one_remZ {zs : List A4} (h : OneZ zs) (x : Int) : OneZ (remZ zs x) := List.Pairwise.sublist List.filter_sublist h
theorem one_putZ {zs : List A4} (h : OneZ zs) (a : A4) : OneZ (putZ zs a) := by
  unfold putZ OneZ
  refine List.pairwise_append.2 ⟨List.Pairwise.sublist List.filter_sublist h, List.pairwise_singleton _ _, fun x hx y hy => ?_⟩
  obtain rfl := List.mem_singleton.1 hy
  have h2 := (List.mem_filter.1 hx).2
  rintro ⟨e1, e2⟩
  simp [e1, e2] at h2
theorem one_putW {zs : List A4} (h : OneZ zs) (a : A4) : OneZ (putW zs a) := by
  unfold putW
  split
  · exact h
  · exact one_putZ h a
theorem putW_mem {zs : List A4} {a x : A4} (h : x ∈ putW zs a) : x ∈ zs ∨ x = a := by
  unfold putW at h
  split at h
  · exact Or.inl h
  · rcases putZ_mem.1 h with ⟨h, _⟩ | h
    · exact Or.inl h
    · exact Or.inr h
theorem putsZ_mem (v : Int) : ∀ (L : List S3) (zs : List A4) {x : A4}, x ∈ putsZ v zs L → x ∈ zs ∨ ∃ s ∈ L, x = (s.1, s.2.1, s.2.2, v)
  | [], _, _, h => Or.inl h
  | s :: r, zs, x, h => by
    rcases putsZ_mem v r _ h with h | ⟨t, ht, e⟩
    · rcases putW_mem h with h | h
      · exact Or.inl h
      · exact Or.inr ⟨s, by simp, h⟩
    · exact Or.inr ⟨t, by simp [ht], e⟩
/-- an arc as cheap lies there. -/
def LowZ (zs : List A4) (x y w : Int) : Prop := ∃ z ∈ zs, z.1 = x ∧ z.2.1 = y ∧ z.2.2.1 ≤ w
theorem putW_new (zs : List A4) (a : A4) : LowZ (putW zs a) a.1 a.2.1 a.2.2.1 := by
  unfold putW
  split
  · rename_i h
    unfold wtA at h
    cases hf : findA zs a.1 a.2.1 with
    | none => rw [hf] at h; simp [hasQ] at h
    | some z =>
      rw [hf] at h
      simp only [Option.map_some, hasQ, decide_eq_true_eq] at h
      obtain ⟨h1, h2, h3⟩ := findA_some hf
      exact ⟨z, h1, h2, h3, h⟩
  · exact ⟨a, putZ_mem.2 (Or.inr rfl), rfl, rfl, Int.le_refl _⟩
theorem putW_low {zs : List A4} (ho : OneZ zs) (a : A4) {x y w : Int} (h : LowZ zs x y w) : LowZ (putW zs a) x y w := by
  obtain ⟨z, hz, e1, e2, e3⟩ := h
  by_cases hs : z.1 = a.1 ∧ z.2.1 = a.2.1
  · unfold putW
    split
    · exact ⟨z, hz, e1, e2, e3⟩
    · rename_i hq
      refine ⟨a, putZ_mem.2 (Or.inr rfl), hs.1.symm.trans e1, hs.2.symm.trans e2, ?_⟩
      unfold wtA at hq
      cases hf : findA zs a.1 a.2.1 with
      | none =>
        unfold findA at hf
        have := List.find?_eq_none.1 hf z hz
        simp [hs.1, hs.2] at this
      | some q =>
        rw [hf] at hq
        simp only [Option.map_some, hasQ, decide_eq_true_eq] at hq
        obtain ⟨h1, h2, h3⟩ := findA_some hf
        have : z = q := one_eq ho hz h1 ⟨hs.1.trans h2.symm, hs.2.trans h3.symm⟩
        subst this
        omega
  · unfold putW
    split
    · exact ⟨z, hz, e1, e2, e3⟩
    · exact ⟨z, putZ_mem.2 (Or.inl ⟨hz, hs⟩), e1, e2, e3⟩
theorem putsZ_low (v : Int) : ∀ (L : List S3) (zs : List A4), OneZ zs → ∀ {x y w : Int}, LowZ zs x y w → LowZ (putsZ v zs L) x y w
  | [], _, _, _, _, _, h => h
  | s :: r, _, ho, _, _, _, h => putsZ_low v r _ (one_putW ho (s.1, s.2.1, s.2.2, v)) (putW_low ho _ h)
theorem putsZ_new (v : Int) : ∀ (L : List S3) (zs : List A4), OneZ zs → ∀ s ∈ L, LowZ (putsZ v zs L) s.1 s.2.1 s.2.2
  | [], _, _, _, hs => by cases hs
  | t :: r, zs, ho, s, hs => by
    rcases List.mem_cons.1 hs with rfl | hs
    · exact putsZ_low v r _ (one_putW ho (s.1, s.2.1, s.2.2, v)) (putW_new zs (s.1, s.2.1, s.2.2, v))
    · exact putsZ_new v r _ (one_putW ho (t.1, t.2.1, t.2.2, v)) s hs
end Go.Proofs.YtbkclhaonbjobaaGreat.Wt

namespace Go.Proofs.YtbkclhaonbjobaaGreat.Wt
open Go Go.RowKit Go.Extern Go.Deep

section
variable {A A' : List (Int × Int × Int)} {v M : Int}
theorem reach_pos (h0 : ∀ a ∈ A, 0 ≤ a.2.2) : ∀ (m : Nat) {i j d : Int}, ReachN A i m j d → 0 ≤ d
  | 0, _, _, _, ⟨_, h⟩ => by omega
  | m + 1, _, _, _, ⟨u, e, r, h1, h2, h3⟩ => by
    have h4 := reach_pos h0 m h1
    have h5 := h0 _ h2
    simp only at h5
    omega
/-- what the new arcs reach, the elder ones reach. -/
theorem reach_back (h1 : ∀ a ∈ A', Reach A a.1 a.2.1 a.2.2) : ∀ (m : Nat) {i j d : Int}, ReachN A' i m j d → Reach A i j d
  | 0, _, _, _, ⟨h2, h3⟩ => ⟨0, h2, h3⟩
  | m + 1, _, _, _, ⟨u, e, r, h2, h3, h4⟩ => by
    obtain ⟨k, hk⟩ := h1 _ h3
    rw [h4]
    exact rcomp (reach_back h1 m h2) k _ _ hk
theorem reach_one {a b r : Int} (h : (a, b, r) ∈ A) : Reach A a b r := ⟨1, a, 0, r, ⟨rfl, rfl⟩, h, by omega⟩
/-- and the other way: no walk grows longer. -/
theorem reach_keep (h0 : ∀ a ∈ A, 0 ≤ a.2.2) (hl : ∀ a ∈ A, a.1 ≠ a.2.1) (h2 : ∀ a ∈ A, a.1 ≠ v → a.2.1 ≠ v → ∃ r, r ≤ a.2.2 ∧ (a.1, a.2.1, r) ∈ A')
    (h3 : ∀ a ∈ A, ∀ b ∈ A, a.2.1 = v → b.1 = v → a.1 ≠ v → b.2.1 ≠ v → a.2.2 + b.2.2 ≤ M → ∃ e, e ≤ a.2.2 + b.2.2 ∧ Reach A' a.1 b.2.1 e) {i : Int} (hi : i ≠ v) :
    ∀ (m : Nat) {j d : Int}, j ≠ v → d ≤ M → ReachN A i m j d → ∃ e, e ≤ d ∧ Reach A' i j e := by
  intro m
  induction m using Nat.strongRecOn with
  | ind m ih =>
    intro j d hj hd hr
    match m, ih, hr with
    | 0, _, ⟨e1, e2⟩ => exact ⟨0, by omega, 0, e1, rfl⟩
    | m + 1, ih, ⟨u, d0, r, q1, q2, q3⟩ =>
      have p0 := reach_pos h0 m q1
      have p1 := h0 _ q2
      simp only at p1
      by_cases hu : u = v
      · match m, ih, q1 with
        | 0, _, ⟨e1, _⟩ => exact absurd (e1.symm.trans hu) hi
        | m + 1, ih, ⟨x, d1, r1, t1, t2, t3⟩ =>
          have hx : x ≠ v := fun e => hl _ t2 (by simp only; omega)
          have p2 := reach_pos h0 m t1
          have p3 := h0 _ t2
          simp only at p3
          obtain ⟨e1, l1, w1⟩ := ih m (by omega) hx (by omega) t1
          obtain ⟨e2, l2, k, w2⟩ := h3 _ t2 _ q2 hu hu hx hj (by simp only; omega)
          simp only at l2 w2
          exact ⟨e1 + e2, by omega, rcomp w1 k _ _ w2⟩
      · obtain ⟨e1, l1, w1⟩ := ih m (by omega) hu (by omega) q1
        obtain ⟨r', l2, w2⟩ := h2 _ q2 hu hj
        simp only at l2 w2
        obtain ⟨k, w3⟩ := reach_one w2
        exact ⟨e1 + r', by omega, rcomp w1 k _ _ w3⟩
end
end Go.Proofs.YtbkclhaonbjobaaGreat.Wt

namespace Go.Proofs.YtbkclhaonbjobaaGreat.Wt
open Go Go.RowKit Go.Extern Go.Deep

theorem reach_low {A A' : List (Int × Int × Int)} (h : ∀ a ∈ A, ∃ r, r ≤ a.2.2 ∧ (a.1, a.2.1, r) ∈ A') : ∀ (m : Nat) {i j d : Int}, ReachN A i m j d → ∃ e, e ≤ d ∧ Reach A' i j e
  | 0, _, _, _, ⟨e1, e2⟩ => ⟨0, by omega, 0, e1, rfl⟩
  | m + 1, _, _, _, ⟨u, d0, r, q1, q2, q3⟩ => by
    obtain ⟨e1, l1, w1⟩ := reach_low h m q1
    obtain ⟨r', l2, w2⟩ := h _ q2
    simp only at l2 w2
    obtain ⟨k, w3⟩ := reach_one w2
    exact ⟨e1 + r', by omega, rcomp w1 k _ _ w3⟩
section
variable {n : Nat} {bs : List Bool} {R : Bool → Nat → Rw} {zs : List A4} {v : Int}
theorem arc_in9 (ht : Tied n bs R zs) (hi : OvInv n bs R) {i : H3} : i ∈ outM n bs R true v ↔ (i.1, v, i.2.1, i.2.2) ∈ zs := by
  rw [← ht.outM hi]
  exact (sortA_mem _).trans sideA_mem_true
theorem arc_out9 (ht : Tied n bs R zs) (hi : OvInv n bs R) {i : H3} : i ∈ outM n bs R false v ↔ (v, i.1, i.2.1, i.2.2) ∈ zs := by
  rw [← ht.outM hi]
  exact (sortA_mem _).trans sideA_mem_false
theorem low_arc {Z : List A4} {x y w : Int} (h : LowZ Z x y w) : ∃ r, r ≤ w ∧ (x, y, r) ∈ Z.map Dt.as3 := by
  obtain ⟨z, hz, e1, e2, e3⟩ := h
  exact ⟨z.2.2.1, e3, List.mem_map.2 ⟨z, hz, by unfold Dt.as3; rw [e1, e2]⟩⟩
theorem cont_back (ht : Tied n bs R zs) (hi : OvInv n bs R) (hp sp : Int) : ∀ a ∈ (contZ v zs (needL n bs R v hp sp)).map Dt.as3, Reach (zs.map Dt.as3) a.1 a.2.1 a.2.2 := fun a ha => by
  obtain ⟨x, hx, rfl⟩ := List.mem_map.1 ha
  rcases putsZ_mem v _ _ hx with h | ⟨s, hs, rfl⟩
  · exact reach_one (List.mem_map.2 ⟨x, (remZ_mem.1 h).1, rfl⟩)
  · obtain ⟨i, hi1, hs⟩ := List.mem_flatMap.1 hs
    obtain ⟨y, hy, _, rfl⟩ := dearL_mem (witL_sub hs)
    have m1 : (i.1, v, i.2.1) ∈ zs.map Dt.as3 := List.mem_map.2 ⟨_, (arc_in9 ht hi).1 hi1, rfl⟩
    have m2 : (v, y.1, y.2.1) ∈ zs.map Dt.as3 := List.mem_map.2 ⟨_, (arc_out9 ht hi).1 hy, rfl⟩
    exact ⟨2, v, i.2.1, y.2.1, ⟨i.1, 0, i.2.1, ⟨rfl, rfl⟩, m1, by omega⟩, m2, rfl⟩
theorem cont_stay (ht : Tied n bs R zs) (L : List S3) {x : A4} (hx : x ∈ zs) (h1 : x.1 ≠ v) (h2 : x.2.1 ≠ v) : LowZ (contZ v zs L) x.1 x.2.1 x.2.2.1 :=
  putsZ_low v L _ (one_remZ ht.one v) ⟨x, remZ_mem.2 ⟨hx, h1, h2⟩, rfl, rfl, Int.le_refl _⟩
theorem cont_way (ht : Tied n bs R zs) (hi : OvInv n bs R) (hb : ZB zs) (hn : n ≤ 12) (hp sp : Int) {i y : H3} (hi1 : i ∈ outM n bs R true v) (hy : y ∈ outM n bs R false v) (hM : i.2.1 + y.2.1 ≤ 140737488355328) : ∃ e, e ≤ i.2.1 + y.2.1 ∧ Reach ((contZ v zs (needL n bs R v hp sp)).map Dt.as3) i.1 y.1 e := by
  obtain ⟨hiw, hia, hiv⟩ := half_ok ht hi hb hi1
  obtain ⟨hyw, hya, hyv⟩ := half_ok ht hi hb hy
  obtain ⟨u, hu, hun, hul⟩ := aliveB_iff.1 hia
  obtain ⟨w, hw, hwn, hwl⟩ := aliveB_iff.1 hya
  by_cases hne : y.1 = i.1
  · exact ⟨0, by omega, 0, hne, rfl⟩
  cases hha : hasA n bs R (wayOf i y) with
  | true =>
    obtain ⟨z, hz, e1, e2, e3⟩ := hasA_iff ht hi hha
    have hl := cont_stay (v := v) ht (needL n bs R v hp sp) hz (by rw [e1]; exact hiv) (by rw [e2]; exact hyv)
    obtain ⟨r, hr, hm⟩ := low_arc hl
    rw [e1, e2] at hm
    exact ⟨r, Int.le_trans hr e3, reach_one hm⟩
  | false =>
    have hd : dearB n bs R i y = true := by unfold dearB; rw [decide_eq_true hne, decide_eq_true hM, hha]; rfl
    have hmem : wayOf i y ∈ dearL n bs R i (outM n bs R false v) := List.mem_map.2 ⟨y, List.mem_filter.2 ⟨hy, hd⟩, rfl⟩
    have hN : needI n bs R v hp sp i = (dearL n bs R i (outM n bs R false v)).filter (seenB n (rowsZ (rowW n bs R) v n) i.1.toNat hp sp (mostS (dearL n bs R i (outM n bs R false v)))) := by
      unfold needI
      exact witL_is dearL_from
    cases hs : seenB n (rowsZ (rowW n bs R) v n) i.1.toNat hp sp (mostS (dearL n bs R i (outM n bs R false v))) (wayOf i y) with
    | true =>
      have hin : wayOf i y ∈ needL n bs R v hp sp := List.mem_flatMap.2 ⟨i, hi1, by rw [hN]; exact List.mem_filter.2 ⟨hmem, hs⟩⟩
      obtain ⟨r, hr, hm⟩ := low_arc (putsZ_new v _ _ (one_remZ ht.one v) _ hin)
      exact ⟨r, hr, reach_one hm⟩
    | false =>
      have hle : goalF n (rowsZ (rowW n bs R) v n) u hp sp (mostS (dearL n bs R i (outM n bs R false v))) (w : Int) ≤ i.2.1 + y.2.1 := by
        unfold seenB at hs
        rw [hu, Int.toNat_natCast] at hs
        have h1 := of_decide_eq_false hs
        have h2 : (wayOf i y).2.1 = (w : Int) := hw
        have h3 : (wayOf i y).2.2 = i.2.1 + y.2.1 := rfl
        rw [h2, h3] at h1
        omega
      have hst := seen_true (skip := v) ht hi hb hn hun hul (by omega) hwn hp sp (mostS (dearL n bs R i (outM n bs R false v)))
      have hdi := dist_is (fineX ht hb) (endsX (skip := v) ht) hn (j := w) hun (bsX_liv (n := n) hul (by omega))
      rcases hdi with ⟨h1, _⟩ | ⟨_, _, ⟨m, hm⟩, _⟩
      · omega
      · obtain ⟨e, l1, w1⟩ := reach_low (A' := (contZ v zs (needL n bs R v hp sp)).map Dt.as3) (fun a ha => by
          obtain ⟨x, hx, rfl⟩ := List.mem_map.1 ha
          obtain ⟨hx1, hx2, hx3⟩ := (zsX_mem ht).1 hx
          exact low_arc (cont_stay ht _ hx1 hx2 hx3)) m hm
        rw [hu, hw]
        exact ⟨e, by omega, w1⟩
theorem fineT (h : Tied n bs R zs) (hb : ZB zs) : Dt.Fine (liv bs) (zs.map Dt.as3) := fun a ha => by
  obtain ⟨x, hx, rfl⟩ := List.mem_map.1 ha
  obtain ⟨p, q, e1, e2, _, _, lp, lq, _⟩ := h.ends x hx
  have hw := hb x hx
  refine ⟨?_, ?_, hw.1, hw.2, ?_, ?_⟩
  · show 0 ≤ x.1; omega
  · show 0 ≤ x.2.1; omega
  · show liv bs x.1.toNat = true; rw [e1, Int.toNat_natCast]; exact lp
  · show liv bs x.2.1.toNat = true; rw [e2, Int.toNat_natCast]; exact lq
theorem endsT (h : Tied n bs R zs) : ∀ a ∈ zs.map Dt.as3, a.1 < (n : Int) ∧ a.2.1 < (n : Int) := fun a ha => by
  obtain ⟨x, hx, rfl⟩ := List.mem_map.1 ha
  obtain ⟨p, q, e1, e2, hp, hq, _⟩ := h.ends x hx
  refine ⟨?_, ?_⟩
  · show x.1 < (n : Int); omega
  · show x.2.1 < (n : Int); omega
/-- the distances between the nodes that stay are as they were. -/
theorem cont_dist {bs' : List Bool} {R' : Bool → Nat → Rw} (ht : Tied n bs R zs) (hi : OvInv n bs R) (hb : ZB zs) (hn : n ≤ 12) (hp sp : Int) (ht' : Tied n bs' R' (contZ v zs (needL n bs R v hp sp))) (hb' : ZB (contZ v zs (needL n bs R v hp sp))) {u w : Nat} (hu : u < n) (hul : liv bs u = true) (hul' : liv bs' u = true) (huv : (u : Int) ≠ v) (hwv : (w : Int) ≠ v)
    (hd : Dt.dist n (liv bs) (zs.map Dt.as3) u w = 18446744073709551615 ∨ Dt.dist n (liv bs) (zs.map Dt.as3) u w ≤ 140737488355328) :
    Dt.dist n (liv bs') ((contZ v zs (needL n bs R v hp sp)).map Dt.as3) u w = Dt.dist n (liv bs) (zs.map Dt.as3) u w := by
  have h1 := dist_is (fineT ht hb) (endsT ht) hn (j := w) hu hul
  have h2 := dist_is (fineT ht' hb') (endsT ht') hn (j := w) hu hul'
  have hback : ∀ e, Reach ((contZ v zs (needL n bs R v hp sp)).map Dt.as3) (u : Int) (w : Int) e → Reach (zs.map Dt.as3) (u : Int) (w : Int) e := fun e ⟨m, hm⟩ => reach_back (cont_back ht hi hp sp) m hm
  rcases h1 with ⟨e1, n1⟩ | ⟨p1, p2, r1, l1⟩
  · rcases h2 with ⟨e2, _⟩ | ⟨_, _, r2, _⟩
    · rw [e1, e2]
    · exact absurd (hback _ r2) (n1 _)
  · have hdM : Dt.dist n (liv bs) (zs.map Dt.as3) u w ≤ 140737488355328 := by omega
    obtain ⟨m, hm⟩ := r1
    obtain ⟨e, le, he⟩ := reach_keep (A' := (contZ v zs (needL n bs R v hp sp)).map Dt.as3) (v := v) (M := 140737488355328)
      (fun a ha => by obtain ⟨x, hx, rfl⟩ := List.mem_map.1 ha; exact (hb x hx).1)
      (fun a ha => by
        obtain ⟨x, hx, rfl⟩ := List.mem_map.1 ha
        obtain ⟨p, q, e1, e2, _, _, _, _, hpq⟩ := ht.ends x hx
        show x.1 ≠ x.2.1
        omega)
      (fun a ha k1 k2 => by
        obtain ⟨x, hx, rfl⟩ := List.mem_map.1 ha
        exact low_arc (cont_stay ht _ hx k1 k2))
      (fun a ha b hbm k1 k2 k3 k4 k5 => by
        obtain ⟨x, hx, rfl⟩ := List.mem_map.1 ha
        obtain ⟨y, hy, rfl⟩ := List.mem_map.1 hbm
        obtain ⟨x0, x1, x2, x3⟩ := x
        obtain ⟨y0, y1, y2, y3⟩ := y
        have q1 : x1 = v := k1
        have q2 : y0 = v := k2
        subst q1
        subst q2
        exact cont_way ht hi hb hn hp sp (i := (x0, x2, x3)) (y := (y1, y2, y3)) ((arc_in9 ht hi).2 hx) ((arc_out9 ht hi).2 hy) k5)
      huv m hwv hdM hm
    rcases h2 with ⟨_, n2⟩ | ⟨_, _, r2, l2⟩
    · exact absurd he (n2 _)
    · have := l2 _ he
      have := l1 _ (hback _ r2)
      omega
end
end Go.Proofs.YtbkclhaonbjobaaGreat.Wt

namespace Go.Proofs.YtbkclhaonbjobaaGreat.Wt
open Go Go.RowKit Go.Extern Go.Deep

section
variable {g : Dt.Mx}
/-- as OkD, at the weights of a graph. -/
def OkS (m : Nat) (g : Dt.Mx) : Prop := ∀ i j, g i j = 18446744073709551615 ∨ (0 ≤ g i j ∧ g i j ≤ 2147483647 * (2 ^ m : Nat))
theorem OkS.okD {m : Nat} (h : OkS m g) : OkD m g := fun i j => by
  have := h i j
  generalize 2 ^ m = P at *
  omega
theorem oks_ph {m : Nat} (h : OkS m g) (hm : m ≤ 12) (k : Nat) : OkS (m + 1) (Dt.ph g k) := fun i j => by
  rw [ph_is h.okD hm]
  have h1 := h i k
  have h2 := h k j
  have h3 := h i j
  rw [show (2 ^ (m + 1) : Nat) = 2 * 2 ^ m by rw [Nat.pow_succ]; omega]
  generalize 2 ^ m = P at *
  split
  · omega
  · omega
theorem oks_phs (h : OkS 0 g) : ∀ k, k ≤ 12 → OkS k (Dt.phs g k)
  | 0, _ => h
  | k + 1, hk => oks_ph (oks_phs h k (by omega)) (by omega) k
theorem dist_small {n : Nat} {al : Nat → Bool} {xs : List (Int × Int × Int)} (hf : ∀ a ∈ xs, 0 ≤ a.2.2 ∧ a.2.2 ≤ 2147483647) (hn : n ≤ 12) (i j : Nat) : Dt.dist n al xs i j = 18446744073709551615 ∨ Dt.dist n al xs i j ≤ 140737488355328 := by
  have h0 : OkS 0 (Dt.ini al xs) := fun i j => by
    rcases Dt.fold_or xs (Dt.f00 al) i j with e | ⟨a, ha, _, _, e⟩
    · unfold Dt.ini
      rw [e]
      unfold Dt.f00 Dt.far
      split
      · exact Or.inr ⟨Int.le_refl _, by omega⟩
      · exact Or.inl rfl
    · unfold Dt.ini
      rw [e]
      have := hf a ha
      exact Or.inr ⟨this.1, by omega⟩
  have h := oks_phs h0 n hn i j
  have hp := pow_small hn
  unfold Dt.dist
  generalize 2 ^ n = P at *
  omega
end
section
variable {A A' : List (Int × Int × Int)}
theorem reach_low9 (h : ∀ a ∈ A, ∃ r, r ≤ a.2.2 ∧ Reach A' a.1 a.2.1 r) : ∀ (m : Nat) {i j d : Int}, ReachN A i m j d → ∃ e, e ≤ d ∧ Reach A' i j e
  | 0, _, _, _, ⟨e1, e2⟩ => ⟨0, by omega, 0, e1, rfl⟩
  | m + 1, _, _, _, ⟨u, d0, r, q1, q2, q3⟩ => by
    obtain ⟨e1, l1, w1⟩ := reach_low9 h m q1
    obtain ⟨r', l2, k, w2⟩ := h _ q2
    simp only at l2 w2
    exact ⟨e1 + r', by omega, rcomp w1 k _ _ w2⟩
/-- arcs that stand for one another tell one matrix. -/
theorem dist_like {n : Nat} {al al' : Nat → Bool} (hf : Dt.Fine al A) (hf' : Dt.Fine al' A') (he : ∀ a ∈ A, a.1 < (n : Int) ∧ a.2.1 < (n : Int)) (he' : ∀ a ∈ A', a.1 < (n : Int) ∧ a.2.1 < (n : Int)) (hn : n ≤ 12)
    (h1 : ∀ a ∈ A, ∃ r, r ≤ a.2.2 ∧ Reach A' a.1 a.2.1 r) (h2 : ∀ a ∈ A', ∃ r, r ≤ a.2.2 ∧ Reach A a.1 a.2.1 r) {u w : Nat} (hu : u < n) (hl : al u = true) (hl' : al' u = true) : Dt.dist n al A u w = Dt.dist n al' A' u w := by
  rcases dist_is hf he hn (j := w) hu hl with ⟨e1, n1⟩ | ⟨_, _, ⟨m1, r1⟩, l1⟩ <;> rcases dist_is hf' he' hn (j := w) hu hl' with ⟨e2, n2⟩ | ⟨_, _, ⟨m2, r2⟩, l2⟩
  · rw [e1, e2]
  · obtain ⟨e, _, r⟩ := reach_low9 h2 m2 r2
    exact absurd r (n1 e)
  · obtain ⟨e, _, r⟩ := reach_low9 h1 m1 r1
    exact absurd r (n2 e)
  · obtain ⟨e, le1, r⟩ := reach_low9 h1 m1 r1
    obtain ⟨e', le2, r'⟩ := reach_low9 h2 m2 r2
    have := l1 _ r'
    have := l2 _ r
    omega
end
/-- a graph's arcs are as the matrix wants them. -/
theorem graph_arc {n : Nat} {xs : List (Int × Int × Int)} (hg : graphErr (n : Int) xs = (0, [])) {a : Int × Int × Int} (ha : a ∈ xs) : 0 ≤ a.1 ∧ a.1 < (n : Int) ∧ 0 ≤ a.2.1 ∧ a.2.1 < (n : Int) ∧ 0 ≤ a.2.2 ∧ a.2.2 ≤ 2147483647 := by
  have h3 := ((good_iff _ _).1 hg).2 a ha
  unfold arcBad at h3
  split at h3
  · cases h3
  · split at h3
    · cases h3
    · omega
theorem graph_fine {n : Nat} {xs : List (Int × Int × Int)} (hg : graphErr (n : Int) xs = (0, [])) {al : Nat → Bool} (hal : ∀ m : Nat, m < n → al m = true) : Dt.Fine al xs := fun a ha => by
  have := graph_arc hg ha
  exact ⟨this.1, this.2.2.1, this.2.2.2.2.1, by omega, hal _ (by omega), hal _ (by omega)⟩
theorem map_as3 (xs : List (Int × Int × Int)) : (xs.map asA4).map Dt.as3 = xs := by
  rw [List.map_map]
  exact List.map_id _
/-- the distances of a graph's new overlay are the graph's. -/
theorem graph_dist {n : Nat} {xs : List (Int × Int × Int)} (hg : graphErr (n : Int) xs = (0, [])) (hn : n ≤ 12) {u w : Nat} (hu : u < n) : Dt.dist n (liv (List.replicate n true)) (((normA xs).map asA4).map Dt.as3) u w = Dt.dist n (fun _ => true) xs u w := by
  have hl : ∀ m : Nat, m < n → liv (List.replicate n true) m = true := fun m hm => by unfold liv; simp [hm]
  rw [map_as3]
  refine dist_like (graph_fine (good_norm hg) hl) (graph_fine hg fun _ _ => rfl) (fun a ha => ?_) (fun a ha => ?_) hn (fun a ha => ?_) (fun a ha => ?_) hu (hl u hu) rfl
  · have := graph_arc (good_norm hg) ha
    exact ⟨this.2.1, this.2.2.2.1⟩
  · have := graph_arc hg ha
    exact ⟨this.2.1, this.2.2.2.1⟩
  · exact ⟨a.2.2, Int.le_refl _, reach_one (norm_sub ha).1⟩
  · by_cases he : a.1 = a.2.1
    · exact ⟨0, (graph_arc hg ha).2.2.2.2.1, 0, he.symm, rfl⟩
    · obtain ⟨b, hb, h1, h2⟩ := (normA_norm xs).all a (kept_mem.2 ⟨ha, he⟩)
      obtain ⟨b0, b1, b2⟩ := b
      obtain ⟨a0, a1, a2⟩ := a
      obtain ⟨rfl, rfl⟩ : b0 = a0 ∧ b1 = a1 := h1
      exact ⟨b2, h2, reach_one hb⟩
/-- the arcs as the law tells them, node by node. -/
def nowL (n : Nat) (bs : List Bool) (R : Bool → Nat → Rw) (k : Nat) : List A4 := (List.range k).flatMap fun u : Nat => (outM n bs R false (u : Int)).map fun h => ((u : Int), h.1, h.2.1, (0 : Int))
section
variable {n : Nat} {bs : List Bool} {R : Bool → Nat → Rw} {zs : List A4}
theorem nowL_succ (k : Nat) : nowL n bs R (k + 1) = nowL n bs R k ++ (outM n bs R false (k : Int)).map fun h => ((k : Int), h.1, h.2.1, (0 : Int)) := by
  unfold nowL
  rw [List.range_succ, List.flatMap_append, List.flatMap_cons, List.flatMap_nil, List.append_nil]
theorem nowL_len (hi : OvInv n bs R) (k : Nat) : (nowL n bs R k).length ≤ k * n := by
  have := flat_len (fun u : Nat => (outM n bs R false (u : Int)).map fun h => ((u : Int), h.1, h.2.1, (0 : Int))) n (List.range k) (fun u => by rw [List.length_map]; exact half_few hi false _)
  rwa [List.length_range] at this
theorem now_mem (ht : Tied n bs R zs) (hi : OvInv n bs R) {a : Int × Int × Int} : a ∈ (nowL n bs R n).map Dt.as3 ↔ a ∈ zs.map Dt.as3 := by
  constructor
  · intro ha
    obtain ⟨x, hx, rfl⟩ := List.mem_map.1 ha
    obtain ⟨u, _, hx⟩ := List.mem_flatMap.1 hx
    obtain ⟨h, hh, rfl⟩ := List.mem_map.1 hx
    exact List.mem_map.2 ⟨_, (arc_out9 ht hi).1 hh, rfl⟩
  · intro ha
    obtain ⟨x, hx, rfl⟩ := List.mem_map.1 ha
    obtain ⟨p, q, e1, e2, hp, _⟩ := ht.ends x hx
    obtain ⟨x0, x1, x2, x3⟩ := x
    obtain rfl : x0 = (p : Int) := e1
    exact List.mem_map.2 ⟨((p : Int), x1, x2, (0 : Int)), List.mem_flatMap.2 ⟨p, List.mem_range.2 hp, List.mem_map.2 ⟨(x1, x2, x3), (arc_out9 ht hi).2 hx, rfl⟩⟩, rfl⟩
theorem now_fine (ht : Tied n bs R zs) (hi : OvInv n bs R) (hb : ZB zs) : Dt.Fine (liv bs) ((nowL n bs R n).map Dt.as3) := fun a ha => fineT ht hb a ((now_mem ht hi).1 ha)
theorem now_ends (ht : Tied n bs R zs) (hi : OvInv n bs R) : ∀ a ∈ (nowL n bs R n).map Dt.as3, a.1 < (n : Int) ∧ a.2.1 < (n : Int) := fun a ha => endsT ht a ((now_mem ht hi).1 ha)
theorem now_dist (ht : Tied n bs R zs) (hi : OvInv n bs R) (hb : ZB zs) (hn : n ≤ 12) {u w : Nat} (hu : u < n) (hl : liv bs u = true) : Dt.dist n (liv bs) ((nowL n bs R n).map Dt.as3) u w = Dt.dist n (liv bs) (zs.map Dt.as3) u w :=
  dist_like (now_fine ht hi hb) (fineT ht hb) (now_ends ht hi) (endsT ht) hn (fun a ha => ⟨a.2.2, Int.le_refl _, reach_one ((now_mem ht hi).1 ha)⟩) (fun a ha => ⟨a.2.2, Int.le_refl _, reach_one ((now_mem ht hi).2 ha)⟩) hu hl hl
end
/-- what the loop keeps: the distances between those who stay are the graph's. -/
def Kept9 (n : Nat) (bs : List Bool) (zs : List A4) (xs : List (Int × Int × Int)) : Prop := ∀ u w : Nat, u < n → w < n → liv bs u = true → liv bs w = true → Dt.dist n (liv bs) (zs.map Dt.as3) u w = Dt.dist n (fun _ => true) xs u w
theorem kept9_new {n : Nat} {xs : List (Int × Int × Int)} (hg : graphErr (n : Int) xs = (0, [])) (hn : n ≤ 12) : Kept9 n (List.replicate n true) ((normA xs).map asA4) xs := fun _ _ hu _ _ _ => graph_dist hg hn hu
theorem kept9_cont {n : Nat} {bs : List Bool} {R R' : Bool → Nat → Rw} {zs : List A4} {xs : List (Int × Int × Int)} {v : Nat} (hg : graphErr (n : Int) xs = (0, [])) (h : Kept9 n bs zs xs) (ht : Tied n bs R zs) (hi : OvInv n bs R) (hb : ZB zs) (hn : n ≤ 12) (hp sp : Int) (ht' : Tied n (bs.set v false) R' (contZ (v : Int) zs (needL n bs R (v : Int) hp sp))) (hb' : ZB (contZ (v : Int) zs (needL n bs R (v : Int) hp sp))) :
    Kept9 n (bs.set v false) (contZ (v : Int) zs (needL n bs R (v : Int) hp sp)) xs := fun u w hu hw lu lw => by
  have q1 := lu
  have q2 := lw
  rw [liv_set] at q1 q2
  split at q1
  · cases q1
  rename_i n1
  split at q2
  · cases q2
  rename_i n2
  have e := h u w hu hw q1 q2
  have hs := dist_small (al := fun _ => true) (fun a ha => (graph_arc hg ha).2.2.2.2) hn u w
  rw [← e] at hs ⊢
  exact cont_dist ht hi hb hn hp sp ht' hb' hu q1 lu (by omega) (by omega) hs
end Go.Proofs.YtbkclhaonbjobaaGreat.Wt
