/- Relaxing arcs over and over: what holds, and what it comes to. -/
import Derived.Test.YtbaahjppofbdlaaGreatDoorSeX
namespace Go.Proofs.YtbaahjppofbdlaaGreatDoor

/-- the number of no distance, behind a name. -/
def farN : Int := 18446744073709551615
theorem farN_is : farN = 18446744073709551615 := rfl
/-- how many have a distance. -/
def cntD (D : List Int) : Nat := D.countP fun x => decide (x ≠ farN)
structure BF (n : Nat) (zs : List (Int × Int × Int)) (s : Nat) (D : List Int) : Prop where
  len : D.length = n
  src : D[s]? = some 0
  ok : ∀ (v : Nat) (x : Int), D[v]? = some x → x = farN ∨ (0 ≤ x ∧ x ≤ ((cntD D : Int) - 1) * 2147483647 ∧ Reach zs (s : Int) (v : Int) x)
theorem cntD_le (D : List Int) : cntD D ≤ D.length := List.countP_le_length
theorem cntD_set : ∀ (D : List Int) (v : Nat) (x y : Int), D[v]? = some x → y ≠ farN → (x = farN → cntD (D.set v y) = cntD D + 1) ∧ (x ≠ farN → cntD (D.set v y) = cntD D)
  | [], v, x, y, h, _ => by simp at h
  | a :: r, 0, x, y, h, hy => by
    have e : a = x := by simpa using h
    subst e
    rw [List.set_cons_zero]
    unfold cntD
    refine ⟨fun e => ?_, fun e => ?_⟩
    · rw [List.countP_cons_of_pos (by simpa using hy), List.countP_cons_of_neg (by simpa using e)]
    · rw [List.countP_cons_of_pos (by simpa using hy), List.countP_cons_of_pos (by simpa using e)]
  | a :: r, v + 1, x, y, h, hy => by
    obtain ⟨h1, h2⟩ := cntD_set r v x y (by simpa using h) hy
    rw [List.set_cons_succ]
    unfold cntD at h1 h2 ⊢
    by_cases e : decide (a ≠ farN) = true
    · rw [List.countP_cons_of_pos (p := fun x => decide (x ≠ farN)) (a := a) e, List.countP_cons_of_pos (p := fun x => decide (x ≠ farN)) (a := a) e]
      exact ⟨fun k => by rw [h1 k], fun k => by rw [h2 k]⟩
    · rw [List.countP_cons_of_neg (p := fun x => decide (x ≠ farN)) (a := a) e, List.countP_cons_of_neg (p := fun x => decide (x ≠ farN)) (a := a) e]
      exact ⟨h1, h2⟩
theorem sum_set : ∀ (D : List Int) (v : Nat) (x y : Int), D[v]? = some x → (D.set v y).sum = D.sum - x + y
  | [], v, x, y, h => by simp at h
  | a :: r, 0, x, y, h => by
    have e : a = x := by simpa using h
    subst e
    rw [List.set_cons_zero, List.sum_cons, List.sum_cons]
    omega
  | a :: r, v + 1, x, y, h => by
    rw [List.set_cons_succ, List.sum_cons, List.sum_cons, sum_set r v x y (by simpa using h)]
    omega
theorem cntD_pos {n : Nat} {zs : List (Int × Int × Int)} {s : Nat} {D : List Int} (h : BF n zs s D) : 1 ≤ cntD D := by
  unfold cntD
  exact List.countP_pos_iff.2 ⟨0, List.mem_of_getElem? h.src, by unfold farN; decide⟩
theorem BF.bound {n : Nat} {zs : List (Int × Int × Int)} {s : Nat} {D : List Int} (h : BF n zs s D) (hn : n ≤ 65536) {v : Nat} {x : Int} (hx : D[v]? = some x) (hne : x ≠ farN) : 0 ≤ x ∧ x ≤ 140737488355328 := by
  rcases h.ok v x hx with e | ⟨h1, h2, _⟩
  · exact absurd e hne
  · have := cntD_le D
    rw [h.len] at this
    exact ⟨h1, by omega⟩
theorem BF.relax {n : Nat} {zs : List (Int × Int × Int)} {s : Nat} {D : List Int} (h : BF n zs s D) (hn : n ≤ 65536) {u v : Nat} {r x y : Int} (ha : ((u : Int), (v : Int), r) ∈ zs) (hr : 0 ≤ r) (hr2 : r ≤ 2147483647) (hu : D[u]? = some x) (hxf : x ≠ farN) (hv : D[v]? = some y) (hlt : x + r < y) : BF n zs s (D.set v (x + r)) ∧ (D.set v (x + r)).sum < D.sum := by
  have hb := h.bound hn hu hxf
  have hyf : x + r ≠ farN := by rw [farN_is]; omega
  have hvl := (List.getElem?_eq_some_iff.1 hv).1
  obtain ⟨c1, c2⟩ := cntD_set D v y (x + r) hv hyf
  have hxo := h.ok u x hu
  have hpos := cntD_pos h
  obtain ⟨hx0, hxb, hxr⟩ : 0 ≤ x ∧ x ≤ ((cntD D : Int) - 1) * 2147483647 ∧ Reach zs (s : Int) (u : Int) x := by
    rcases hxo with e | e
    · exact absurd e hxf
    · exact e
  have hR : Reach zs (s : Int) (v : Int) (x + r) := by
    obtain ⟨m, hm⟩ := hxr
    exact ⟨m + 1, (u : Int), x, r, hm, ha, rfl⟩
  have hge : (cntD D : Int) ≤ cntD (D.set v (x + r)) := by
    by_cases e : y = farN
    · rw [c1 e]; omega
    · rw [c2 e]; omega
  refine ⟨⟨by rw [List.length_set]; exact h.len, ?_, fun i z hz => ?_⟩, by rw [sum_set D v y (x + r) hv]; omega⟩
  · rw [List.getElem?_set]
    split
    · rename_i e
      subst e
      rw [h.src] at hv
      cases hv
      omega
    · exact h.src
  · rcases set_get hz with ⟨rfl, rfl⟩ | ⟨_, hz2⟩
    · refine Or.inr ⟨by omega, ?_, hR⟩
      by_cases e : y = farN
      · rw [c1 e]; omega
      · rw [c2 e]
        rcases h.ok i y hv with e' | ⟨_, h2, _⟩
        · exact absurd e' e
        · omega
    · rcases h.ok i z hz2 with e | ⟨h1, h2, h3⟩
      · exact Or.inl e
      · exact Or.inr ⟨h1, by omega, h3⟩
/-- an arc leads nowhere nearer. -/
def Tight (D : List Int) (a : Int × Int × Int) : Prop := ∀ x y, D[a.1.toNat]? = some x → D[a.2.1.toNat]? = some y → x ≠ farN → y ≤ x + a.2.2
theorem BF.dist {n : Nat} {zs : List (Int × Int × Int)} {s : Nat} {D : List Int} (hz : Fine n zs) (h : BF n zs s D) (ht : ∀ a ∈ zs, Tight D a) : IsDist n zs s D := by
  have hn := hz.few
  have hle : ∀ (m : Nat) (v d : Int), ReachN zs (s : Int) m v d → 0 ≤ v ∧ ∃ e, D[v.toNat]? = some e ∧ e ≤ d ∧ e ≠ farN := by
    intro m
    induction m with
    | zero =>
      rintro v d ⟨rfl, rfl⟩
      exact ⟨by omega, 0, by rw [Int.toNat_natCast]; exact h.src, Int.le_refl _, by rw [farN_is]; omega⟩
    | succ m ih =>
      rintro v d ⟨u, e, r, h1, h2, rfl⟩
      obtain ⟨hu, e', h3, h4, h5⟩ := ih u e h1
      have hends := hz.ends _ h2
      simp only at hends
      have hvl : v.toNat < D.length := by rw [h.len]; omega
      have hy : D[v.toNat]? = some D[v.toNat] := List.getElem?_eq_getElem hvl
      have := ht _ h2 e' D[v.toNat] h3 hy h5
      simp only at this
      have hb := h.bound hn h3 h5
      refine ⟨by omega, _, hy, by omega, ?_⟩
      rw [farN_is]
      omega
  refine ⟨h.len, fun v hv => ⟨D[v]'(by rw [h.len]; exact hv), List.getElem?_eq_getElem _, ?_⟩⟩
  have hx : D[v]? = some (D[v]'(by rw [h.len]; exact hv)) := List.getElem?_eq_getElem _
  generalize D[v]'(by rw [h.len]; exact hv) = x at hx
  by_cases e : x = farN
  · refine Or.inr ⟨e, fun d ⟨m, hm⟩ => ?_⟩
    obtain ⟨_, e', g1, _, g3⟩ := hle m v d hm
    rw [Int.toNat_natCast, hx] at g1
    cases g1
    exact g3 e
  · have hb := h.bound hn hx e
    rcases h.ok v x hx with e' | ⟨_, _, h3⟩
    · exact absurd e' e
    · refine Or.inl ⟨hb.1, hb.2, h3, fun d ⟨m, hm⟩ => ?_⟩
      obtain ⟨_, e', g1, g2, _⟩ := hle m v d hm
      rw [Int.toNat_natCast, hx] at g1
      cases g1
      exact g2
/-- the beginning. -/
theorem BF.start {n : Nat} {zs : List (Int × Int × Int)} {s : Nat} (hs : s < n) : BF n zs s ((List.replicate n farN).set s 0) := by
  have hl : (List.replicate n farN).length = n := List.length_replicate
  refine ⟨by rw [List.length_set]; exact hl, by rw [List.getElem?_set]; simp [hs], fun v x hx => ?_⟩
  rcases set_get hx with ⟨rfl, rfl⟩ | ⟨_, h2⟩
  · refine Or.inr ⟨by omega, ?_, 0, rfl, rfl⟩
    have h0 : (List.replicate n farN)[v]? = some farN := by rw [List.getElem?_replicate, if_pos hs]
    have := (cntD_set _ v farN 0 h0 (by unfold farN; decide)).1 rfl
    omega
  · rw [List.getElem?_replicate] at h2
    split at h2
    · exact Or.inl (Option.some.inj h2).symm
    · cases h2
end Go.Proofs.YtbaahjppofbdlaaGreatDoor
