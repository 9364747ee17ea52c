/- what holds between an overlay's rows: behind Remove. -/
import Derived.Test.YtgfhmciolmgogaaDoorOwC
namespace Go.Proofs.YtgfhmciolmgogaaDoor
open Go.RowKit Go.Extern Go.Sort

theorem hasH_mem {l : List H3} {x : Int} : hasH l x = true ↔ ∃ a ∈ l, a.1 = x := by
  unfold hasH
  rw [List.any_eq_true]
  simp
section
variable {n u : Nat} {bs : List Bool} {R R1 R2 : Bool → Nat → Rw}
/-- where a node stands, its end is alive too. -/
theorem OvInv.liveEnd (h : OvInv n bs R) (s : Bool) {v : Nat} (hv : v < n) {a : H3} (ha : a ∈ (R s v).2.1) : liv bs v = true := by
  cases hl : liv bs v with
  | true => rfl
  | false => rw [h.dead s v hv hl] at ha; cases ha
/-- what Remove asks for. -/
theorem OvInv.pre (h : OvInv n bs R) (hu : u < n) (lu : liv bs u = true) : ∀ s s', s ≠ s' → ∀ a ∈ livH (bs.set u false) (R s u).2.1, (R s' a.1.toNat).2.2 + 1 ≤ (R s' a.1.toNat).2.1.length := fun s s' hss a ha => by
  obtain ⟨h1, h2⟩ := livH_mem.1 ha
  obtain ⟨n0, n1⟩ := h.ok.node s u hu a h1
  obtain ⟨m, hm⟩ : ∃ m : Nat, a.1 = (m : Int) := ⟨a.1.toNat, by omega⟩
  have hmn : m < n := by omega
  have h3 : liv (bs.set u false) m = true := by rw [hm, Int.toNat_natCast] at h2; exact h2
  rw [liv_set] at h3
  split at h3
  · cases h3
  · have he : s' = !s := by cases s <;> cases s' <;> simp_all
    have h4 := h.sym s u m a.2.1 a.2.2 hu hmn lu h3 (by rw [← hm]; exact h1)
    rw [hm, Int.toNat_natCast, he]
    have h5 := h.gone (!s) m hmn
    have h6 : ((u : Int), a.2.1, a.2.2) ∈ livH bs (R (!s) m).2.1 := livH_mem.2 ⟨h4, by simpa [liv] using lu⟩
    have h7 := List.length_pos_of_mem h6
    omega
/-- the rows behind a Remove. -/
theorem lost_rows (L1 : LostR n (bs.set u false) true (R false u).2.1 R R1) (L2 : LostR n (bs.set u false) false (R true u).2.1 R1 R2) : ∀ s v, v < n → ((updS (updS R2 false u nilR) true u nilR) s v).2 = if v = u then ([], 0) else if hasH (livH (bs.set u false) (R (!s) u).2.1) (v : Int) then loseH (bs.set u false) (R s v).2.1 (R s v).2.2 else (R s v).2 := fun s v hv => by
  by_cases e : v = u
  · subst e
    rw [if_pos rfl]
    cases s with
    | false => rw [updS_far _ true false _ _ (by simp), updS_at]; rfl
    | true => rw [updS_at]; rfl
  · rw [if_neg e]
    cases s with
    | false =>
      rw [updS_far _ true false _ _ (by simp), updS_other _ _ _ _ _ _ (by simp [e])]
      have e1 : R1 false v = R false v := (L1 false v hv).2 (fun h => by cases h.1)
      split
      · rename_i hh
        rw [(L2 false v hv).1 ⟨rfl, hh⟩, e1]
      · rename_i hh
        rw [(L2 false v hv).2 (fun h => hh h.2), e1]
    | true =>
      rw [updS_other _ _ _ _ _ _ (by simp [e]), updS_far _ false true _ _ (by simp)]
      rw [(L2 true v hv).2 (fun h => by cases h.1)]
      split
      · rename_i hh
        rw [(L1 true v hv).1 ⟨rfl, hh⟩]
      · rename_i hh
        rw [(L1 true v hv).2 (fun h => hh h.2)]
theorem OvInv.remove (h : OvInv n bs R) (hu : u < n) (lu : liv bs u = true) (hk : RowsOk n R2) (L1 : LostR n (bs.set u false) true (R false u).2.1 R R1) (L2 : LostR n (bs.set u false) false (R true u).2.1 R1 R2) : OvInv n (bs.set u false) (updS (updS R2 false u nilR) true u nilR) := by
  have hrows := lost_rows L1 L2
  have hsub : ∀ s v, v < n → ∀ a ∈ ((updS (updS R2 false u nilR) true u nilR) s v).2.1, a ∈ (R s v).2.1 ∧ v ≠ u := fun s v hv a ha => by
    rw [hrows s v hv] at ha
    split at ha
    · cases ha
    · rename_i e
      refine ⟨?_, e⟩
      split at ha
      · unfold loseH at ha
        split at ha
        · exact (livH_mem.1 ha).1
        · exact ha
      · exact ha
  have hsup : ∀ s v, v < n → v ≠ u → ∀ a ∈ (R s v).2.1, (bs.set u false)[a.1.toNat]?.getD false = true → a ∈ ((updS (updS R2 false u nilR) true u nilR) s v).2.1 := fun s v hv e a ha hl => by
    rw [hrows s v hv, if_neg e]
    split
    · unfold loseH
      split
      · exact livH_mem.2 ⟨ha, hl⟩
      · exact ha
    · exact ha
  have hok : RowsOk n (updS (updS R2 false u nilR) true u nilR) := by
    refine ⟨fun s v hv => ?_, fun s v hv a ha => h.ok.node s v hv a (hsub s v hv a ha).1, fun s v hv => ?_⟩
    · by_cases e : v = u
      · rw [hrows s v hv, if_pos e]
        exact List.Pairwise.nil
      · cases s with
        | false => rw [updS_far _ true false _ _ (by simp), updS_other _ _ _ _ _ _ (by simp [e])]; exact hk.rise false v hv
        | true => rw [updS_other _ _ _ _ _ _ (by simp [e]), updS_far _ false true _ _ (by simp)]; exact hk.rise true v hv
    · by_cases e : v = u
      · rw [hrows s v hv, if_pos e]
        exact Nat.le_refl _
      · cases s with
        | false => rw [updS_far _ true false _ _ (by simp), updS_other _ _ _ _ _ _ (by simp [e])]; exact hk.gone false v hv
        | true => rw [updS_other _ _ _ _ _ _ (by simp [e]), updS_far _ false true _ _ (by simp)]; exact hk.gone true v hv
  refine ⟨hok, fun s v hv hd => ?_, fun s v hv => ?_, fun s v hv a ha => h.self s v hv a (hsub s v hv a ha).1, fun s v x wt via hv hx lv lx hm => ?_⟩
  · rw [hrows s v hv]
    split
    · rfl
    · rename_i e
      rw [liv_set, if_neg e] at hd
      have hz := h.dead s v hv hd
      rw [if_neg]
      · exact hz
      · intro hh
        obtain ⟨a, ha, hav⟩ := hasH_mem.1 hh
        have h2 := (livH_mem.1 ha).2
        rw [hav, Int.toNat_natCast] at h2
        have h3 : liv (bs.set u false) v = true := h2
        rw [liv_set, if_neg e, hd] at h3
        cases h3
  · rw [hrows s v hv]
    split
    · rfl
    · rename_i e
      have hg := h.gone s v hv
      have hd := livH_drop1 (bs := bs) lu (h.ok.rise s v hv) (fun a ha => (h.ok.node s v hv a ha).1)
      split
      · rename_i hh
        unfold loseH
        split
        · simp only [livH_twice]
          omega
        · obtain ⟨a, ha, hav⟩ := hasH_mem.1 hh
          have h1 := (livH_mem.1 ha).1
          have h2 := (livH_mem.1 ha).2
          rw [hav, Int.toNat_natCast] at h2
          have h3 : liv (bs.set u false) v = true := h2
          rw [liv_set, if_neg e] at h3
          have h4 := h.sym (!s) u v a.2.1 a.2.2 hu hv lu h3 (by rw [← hav]; exact h1)
          rw [Bool.not_not] at h4
          have h5 : hasH (R s v).2.1 (u : Int) = true := hasH_mem.2 ⟨_, h4, rfl⟩
          rw [h5, if_pos rfl] at hd
          simp only
          omega
      · rename_i hh
        have h5 : hasH (R s v).2.1 (u : Int) = false := by
          cases h6 : hasH (R s v).2.1 (u : Int) with
          | false => rfl
          | true =>
            exfalso
            obtain ⟨a, ha, hau⟩ := hasH_mem.1 h6
            have lv := h.liveEnd s hv ha
            have h4 := h.sym s v u a.2.1 a.2.2 hv hu lv lu (by rw [← hau]; exact ha)
            apply hh
            refine hasH_mem.2 ⟨_, livH_mem.2 ⟨h4, ?_⟩, rfl⟩
            have h7 : liv (bs.set u false) v = true := by rw [liv_set, if_neg e]; exact lv
            simpa [liv] using h7
        rw [h5] at hd
        simp at hd
        omega
  · obtain ⟨h1, h2⟩ := hsub s v hv _ hm
    have hxu : x ≠ u := fun e => by rw [liv_set, if_pos e] at lx; cases lx
    have lv' := lv
    rw [liv_set, if_neg h2] at lv'
    rw [liv_set, if_neg hxu] at lx
    exact hsup (!s) x hx hxu _ (h.sym s v x wt via hv hx lv' lx h1) (by simpa [liv] using lv)
end
end Go.Proofs.YtgfhmciolmgogaaDoor
