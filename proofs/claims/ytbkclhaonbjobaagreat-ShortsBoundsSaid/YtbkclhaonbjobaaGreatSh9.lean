/- What is needed without bounds, with none, with any. -/
import Derived.Test.YtbkclhaonbjobaaGreatQzX
import Derived.Test.YtbkclhaonbjobaaGreatWz4
namespace Go.Proofs.YtbkclhaonbjobaaGreat.Wt
open Go Go.RowKit Go.Extern Go.Deep

/-- with no arcs allowed nothing is seen but the node itself. -/
theorem steps_zero {n : Nat} {zs : List (Int × Int × Int)} {mo : Int} {S0 : FS} (h0 : ∀ v, 0 ≤ S0.hs v) : ∀ (t : Nat) (S : FS), Steps n zs 0 mo S0 t S → S.vs = S0.vs ∧ S.hs = S0.hs
  | 0, S, h => by
    have e : S = S0 := h
    subst e
    exact ⟨rfl, rfl⟩
  | t + 1, S, ⟨S1, v, k, h1, _, _, h4⟩ => by
    obtain ⟨e1, e2⟩ := steps_zero h0 t S1 h1
    subst h4
    unfold FS.step
    rw [if_neg (by rw [e2]; have := h0 v; omega)]
    exact ⟨e1, e2⟩
theorem goalF_zero {n : Nat} {zs : List (Int × Int × Int)} {u : Nat} (hz : Fine n zs) (hu : u < n) (se mo g : Int) (hg : 0 ≤ g ∧ g ≠ (u : Int)) : goalF n zs u 0 se mo g = 18446744073709551615 := by
  obtain ⟨t, h1, _⟩ := runW_end hz hu 0 se mo
  have h2 := (steps_zero (fun v => by unfold FS.begin FS.lab FS.nil; simp only; split <;> omega) t _ h1).1
  unfold goalF
  rw [h2]
  unfold FS.begin FS.lab
  simp only
  rw [List.getElem?_set_ne (by omega), List.getElem?_replicate]
  split <;> rfl
theorem witL_is {n : Nat} {Z : List (Int × Int × Int)} {hops se : Int} {W : List S3} {a1 : Int} (h : ∀ x ∈ W, x.1 = a1) : witL n Z hops se W = W.filter (seenB n Z a1.toNat hops se (mostS W)) := by
  cases W with
  | nil => rfl
  | cons x r =>
    rw [← h x (by simp)]
    rfl
theorem dearL_from {n : Nat} {bs : List Bool} {R : Bool → Nat → Rw} {i : H3} {out : List H3} : ∀ x ∈ dearL n bs R i out, x.1 = i.1 := fun x hx => by
  unfold dearL at hx
  obtain ⟨y, _, rfl⟩ := List.mem_map.1 hx
  rfl
section
variable {n : Nat} {bs : List Bool} {R : Bool → Nat → Rw} {zs : List A4} {v : Int}
theorem dearL_mem {i : H3} {out : List H3} {x : S3} (hx : x ∈ dearL n bs R i out) : ∃ y ∈ out, dearB n bs R i y = true ∧ x = wayOf i y := by
  unfold dearL at hx
  obtain ⟨y, hy, rfl⟩ := List.mem_map.1 hx
  obtain ⟨h1, h2⟩ := List.mem_filter.1 hy
  exact ⟨y, h1, h2, rfl⟩
/-- with no search every way but those beside which an arc lies is needed. -/
theorem needI_none (ht : Tied n bs R zs) (hi : OvInv n bs R) (hb : ZB zs) (hn : n ≤ 12) (se : Int) {i : H3} (him : i ∈ outM n bs R true v) : needI n bs R v 0 se i = dearL n bs R i (outM n bs R false v) := by
  have hz := rowsZ_fine (skip := v) (rowsW_tied ht hi hb) (show n ≤ 512 by omega)
  obtain ⟨u, hu, hun, _⟩ := aliveB_iff.1 (half_ok ht hi hb him).2.1
  unfold needI
  rw [witL_is dearL_from, List.filter_eq_self]
  intro x hx
  obtain ⟨y, hy, hd, rfl⟩ := dearL_mem hx
  obtain ⟨w, hw, hwn, _⟩ := aliveB_iff.1 (half_ok ht hi hb hy).2.1
  have h1 := (dear_ok ht hi hb (half_ok ht hi hb him).1.1 hx).2.2.2
  unfold dearB at hd
  simp only [Bool.and_eq_true, decide_eq_true_eq] at hd
  unfold seenB
  rw [hu, Int.toNat_natCast, goalF_zero hz hun _ _ _ ⟨by show 0 ≤ y.1; omega, by show y.1 ≠ _; rw [← hu]; exact hd.1.1⟩, decide_eq_true_eq]
  omega
/-- the distances without the node. -/
def distX (n : Nat) (bs : List Bool) (zs : List A4) (v : Int) : Dt.Mx := Dt.dist n (liv (bsX n bs v)) ((zsX n bs zs v).map Dt.as3)
def walkB (n : Nat) (bs : List Bool) (zs : List A4) (v : Int) (i h : H3) : Bool := decide (h.1 ≠ i.1) && decide (i.2.1 + h.2.1 ≤ 140737488355328) && decide (i.2.1 + h.2.1 < distX n bs zs v i.1.toNat h.1.toNat)
def walkL (n : Nat) (bs : List Bool) (zs : List A4) (v : Int) (i : H3) (out : List H3) : List S3 := (out.filter (walkB n bs zs v i)).map (wayOf i)
theorem hasA_iff (ht : Tied n bs R zs) (hi : OvInv n bs R) {a : S3} (h : hasA n bs R a = true) : ∃ z ∈ zs, z.1 = a.1 ∧ z.2.1 = a.2.1 ∧ z.2.2.1 ≤ a.2.2 := by
  unfold hasA at h
  rw [ht.weight hi] at h
  cases hf : findA zs a.1 a.2.1 with
  | none => rw [hf] at h; cases h
  | some z =>
    rw [hf] at h
    simp only [Option.map_some, decide_eq_true_eq] at h
    unfold findA at hf
    have h1 := List.mem_of_find?_eq_some hf
    have h2 := List.find?_some hf
    simp only [Bool.and_eq_true, beq_iff_eq] at h2
    exact ⟨z, h1, h2.1, h2.2, h⟩
theorem dist_arc (ht : Tied n bs R zs) (hb : ZB zs) (hn : n ≤ 12) {u w : Nat} {z : A4} (hz : z ∈ zs) (e1 : z.1 = (u : Int)) (e2 : z.2.1 = (w : Int)) (hu : (u : Int) ≠ v) (hw : (w : Int) ≠ v) : distX n bs zs v u w ≤ z.2.2.1 := by
  obtain ⟨p, q, f1, f2, hp, hq, lp, lq, _⟩ := ht.ends z hz
  obtain rfl : p = u := by omega
  have hd := dist_is (fineX ht hb) (endsX (skip := v) ht) hn (j := w) hp (bsX_liv (n := n) lp hu)
  have hm : ((p : Int), (w : Int), z.2.2.1) ∈ (zsX n bs zs v).map Dt.as3 := by
    refine List.mem_map.2 ⟨z, (zsX_mem ht).2 ⟨hz, by omega, by omega⟩, ?_⟩
    unfold Dt.as3
    rw [e1, e2]
  have hr : Reach ((zsX n bs zs v).map Dt.as3) (p : Int) (w : Int) z.2.2.1 := ⟨1, (p : Int), 0, z.2.2.1, ⟨rfl, rfl⟩, hm, by omega⟩
  unfold distX
  rcases hd with ⟨_, hno⟩ | ⟨_, _, _, hle⟩
  · exact absurd hr (hno _)
  · exact hle _ hr
/-- without bounds a way is needed where no walk is as short. -/
theorem needI_all (ht : Tied n bs R zs) (hi : OvInv n bs R) (hb : ZB zs) (hn : n ≤ 12) {i : H3} (him : i ∈ outM n bs R true v) : needI n bs R v 1048576 1048576 i = walkL n bs zs v i (outM n bs R false v) := by
  have hz := rowsZ_fine (skip := v) (rowsW_tied ht hi hb) (show n ≤ 512 by omega)
  obtain ⟨hiw, hia, hiv⟩ := half_ok ht hi hb him
  obtain ⟨u, hu, hun, hul⟩ := aliveB_iff.1 hia
  have hW : ∀ x ∈ dearL n bs R i (outM n bs R false v), x.2.2 ≤ 140737488355328 := fun x hx => (dear_ok ht hi hb hiw.1 hx).2.2.2
  have hmo := mostS_le (by omega) hW
  unfold needI
  rw [witL_is dearL_from]
  have hge : ∀ x ∈ dearL n bs R i (outM n bs R false v), x.2.2 ≤ mostS (dearL n bs R i (outM n bs R false v)) := fun x hx => mostS_ge hx
  have hmem : ∀ y ∈ outM n bs R false v, dearB n bs R i y = true → wayOf i y ∈ dearL n bs R i (outM n bs R false v) := fun y hy hd => List.mem_map.2 ⟨y, List.mem_filter.2 ⟨hy, hd⟩, rfl⟩
  generalize hM : mostS (dearL n bs R i (outM n bs R false v)) = M at *
  unfold walkL
  rw [show (dearL n bs R i (outM n bs R false v)) = ((outM n bs R false v).filter (dearB n bs R i)).map (wayOf i) from rfl, List.filter_map, List.filter_filter]
  congr 1
  apply List.filter_congr
  intro y hy
  obtain ⟨hyw, hya, hyv⟩ := half_ok ht hi hb hy
  obtain ⟨w, hw, hwn, hwl⟩ := aliveB_iff.1 hya
  have hst := (seen_true ht hi hb hn hun hul (by rw [← hu]; exact hiv) hwn 1048576 1048576 18446744073709551615).2.2 (by omega) (by omega) (by omega)
  have hD : distX n bs zs v i.1.toNat y.1.toNat = goalF n (rowsZ (rowW n bs R) v n) u 1048576 1048576 18446744073709551615 (w : Int) := by
    unfold distX
    rw [hu, hw, Int.toNat_natCast, Int.toNat_natCast, hst]
  cases hd : dearB n bs R i y with
  | true =>
    have h1 := hge _ (hmem y hy hd)
    have h2 : (wayOf i y).2.2 = i.2.1 + y.2.1 := rfl
    have hmost := goalF_most (se := 1048576) (mo1 := M) (mo2 := 18446744073709551615) (d := i.2.1 + y.2.1) hz hun (by omega) (by omega) (by omega) 1048576 (w : Int)
    unfold dearB at hd
    simp only [Bool.and_eq_true, decide_eq_true_eq] at hd
    show (seenB n (rowsZ (rowW n bs R) v n) i.1.toNat 1048576 1048576 M (wayOf i y) && true) = walkB n bs zs v i y
    unfold seenB walkB
    rw [hD, decide_eq_true hd.1.1, decide_eq_true hd.1.2, Bool.and_true, Bool.true_and, Bool.true_and, hu, Int.toNat_natCast]
    have e : (wayOf i y).2.1 = (w : Int) := hw
    rw [e, h2]
    exact decide_eq_decide.2 hmost
  | false =>
    rw [Bool.and_false]
    symm
    unfold walkB
    by_cases h1 : y.1 ≠ i.1
    · by_cases h2 : i.2.1 + y.2.1 ≤ 140737488355328
      · have h3 : hasA n bs R (wayOf i y) = true := by
          unfold dearB at hd
          rw [decide_eq_true h1, decide_eq_true h2] at hd
          simpa using hd
        obtain ⟨z, hz1, z1, z2, z3⟩ := hasA_iff ht hi h3
        have h4 := dist_arc ht hb hn hz1 (u := u) (w := w) (v := v) (by rw [z1]; exact hu) (by rw [z2]; exact hw) (by rw [← hu]; exact hiv) (by rw [← hw]; exact hyv)
        have h5 : z.2.2.1 ≤ i.2.1 + y.2.1 := z3
        have hd3 : decide (i.2.1 + y.2.1 < distX n bs zs v u w) = false := decide_eq_false (by omega)
        rw [hu, hw, Int.toNat_natCast, Int.toNat_natCast, hd3]
        simp
      · rw [decide_eq_false h2]; simp
    · rw [decide_eq_false h1]; simp
/-- what is needed without bounds is needed with any. -/
theorem needI_sub (ht : Tied n bs R zs) (hi : OvInv n bs R) (hb : ZB zs) (hn : n ≤ 12) (hops se : Int) {i : H3} (him : i ∈ outM n bs R true v) : (needI n bs R v 1048576 1048576 i).Sublist (needI n bs R v hops se i) := by
  have hz := rowsZ_fine (skip := v) (rowsW_tied ht hi hb) (show n ≤ 512 by omega)
  obtain ⟨hiw, hia, hiv⟩ := half_ok ht hi hb him
  obtain ⟨u, hu, hun, hul⟩ := aliveB_iff.1 hia
  have hW : ∀ x ∈ dearL n bs R i (outM n bs R false v), x.2.2 ≤ 140737488355328 := fun x hx => (dear_ok ht hi hb hiw.1 hx).2.2.2
  have hmo := mostS_le (by omega) hW
  unfold needI
  rw [witL_is dearL_from, witL_is dearL_from]
  have hge : ∀ x ∈ dearL n bs R i (outM n bs R false v), x.2.2 ≤ mostS (dearL n bs R i (outM n bs R false v)) := fun x hx => mostS_ge hx
  have hend : ∀ x ∈ dearL n bs R i (outM n bs R false v), ∃ w : Nat, x.2.1 = (w : Int) ∧ w < n := fun x hx => by
    obtain ⟨w, e, hwn, _⟩ := aliveB_iff.1 (dear_ok ht hi hb hiw.1 hx).2.1
    exact ⟨w, e, hwn⟩
  generalize hM : mostS (dearL n bs R i (outM n bs R false v)) = M at *
  generalize dearL n bs R i (outM n bs R false v) = W at *
  have e : W.filter (seenB n (rowsZ (rowW n bs R) v n) i.1.toNat 1048576 1048576 M) = (W.filter (seenB n (rowsZ (rowW n bs R) v n) i.1.toNat hops se M)).filter (seenB n (rowsZ (rowW n bs R) v n) i.1.toNat 1048576 1048576 M) := by
    rw [List.filter_filter]
    apply List.filter_congr
    intro x hx
    cases h1 : seenB n (rowsZ (rowW n bs R) v n) i.1.toNat 1048576 1048576 M x with
    | false => rfl
    | true =>
      obtain ⟨w, ew, hwn⟩ := hend x hx
      have hmost := goalF_most (se := 1048576) (mo1 := M) (mo2 := 18446744073709551615) (d := x.2.2) hz hun (by omega) (hge x hx) (by have := hW x hx; omega) 1048576 (w : Int)
      obtain ⟨hs1, _, _⟩ := seen_true ht hi hb hn hun hul (by rw [← hu]; exact hiv) hwn hops se M
      have hs3 := (seen_true ht hi hb hn hun hul (by rw [← hu]; exact hiv) hwn 1048576 1048576 18446744073709551615).2.2 (by omega) (by omega) (by omega)
      unfold seenB at h1 ⊢
      rw [hu, Int.toNat_natCast, ew, decide_eq_true_eq] at h1
      rw [hu, Int.toNat_natCast, ew, Bool.true_and]
      symm
      rw [decide_eq_true_eq]
      have h2 := hmost.1 h1
      omega
  rw [e]
  exact List.filter_sublist
theorem flat_sub {α β : Type} {f g : α → List β} : ∀ {l : List α}, (∀ a ∈ l, (f a).Sublist (g a)) → (l.flatMap f).Sublist (l.flatMap g)
  | [], _ => by simp
  | a :: r, h => by
    rw [List.flatMap_cons, List.flatMap_cons]
    exact (h a (by simp)).append (flat_sub (l := r) fun b hb => h b (by simp [hb]))
theorem flat_congr {α β : Type} {f g : α → List β} : ∀ {l : List α}, (∀ a ∈ l, f a = g a) → l.flatMap f = l.flatMap g
  | [], _ => rfl
  | a :: r, h => by
    rw [List.flatMap_cons, List.flatMap_cons, h a (by simp), flat_congr (l := r) fun b hb => h b (by simp [hb])]
end
/-- how far one list has been met in another. -/
def metN (ws : List S3) : Nat → List S3 → Nat
  | i, [] => i
  | i, s :: r => metN ws (if ws[i]? = some s then i + 1 else i) r
theorem metN_all {ws : List S3} : ∀ (l : List S3) (i : Nat), i ≤ ws.length → (ws.drop i).Sublist l → metN ws i l = ws.length
  | [], i, hi, h => by
    have h1 := List.eq_nil_of_sublist_nil h
    have h2 : (ws.drop i).length = 0 := by rw [h1]; rfl
    rw [List.length_drop] at h2
    show i = _
    omega
  | s :: r, i, hi, h => by
    show metN ws (if ws[i]? = some s then i + 1 else i) r = _
    by_cases hlt : i < ws.length
    · have hd : ws.drop i = ws[i] :: ws.drop (i + 1) := List.drop_eq_getElem_cons hlt
      rw [hd] at h
      by_cases e : ws[i] = s
      · rw [if_pos (by rw [List.getElem?_eq_getElem hlt, e])]
        refine metN_all r (i + 1) (by omega) ?_
        rw [e] at h
        exact List.cons_sublist_cons.1 h
      · rw [if_neg (by rw [List.getElem?_eq_getElem hlt]; intro h2; exact e (Option.some.inj h2))]
        refine metN_all r i hi ?_
        rw [hd]
        rcases List.sublist_cons_iff.1 h with h2 | ⟨q, h2, _⟩
        · exact h2
        · injection h2 with h3 _
          exact absurd h3 e
    · rw [if_neg (by rw [List.getElem?_eq_none (by omega)]; simp)]
      have : ws.drop i = [] := List.drop_eq_nil_of_le (by omega)
      exact metN_all r i hi (by rw [this]; exact List.nil_sublist _)
end Go.Proofs.YtbkclhaonbjobaaGreat.Wt
