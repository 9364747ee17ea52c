/- The reference's matrix of distances tells the distances: by phases, each closed under one middle node more. -/
import Derived.Test.YtefcmpdnlbpjpaaDsA
import Derived.Test.YtefcmpdnlbpjpaaSeX
namespace Go.Proofs.Ytefcmpdnlbpjpaa

section
variable {g : Ds.Mx} {zs : List (Int × Int × Int)}
/-- numbers as they stand behind so many phases. -/
def OkD (m : Nat) (g : Ds.Mx) : Prop := ∀ i j, g i j = 18446744073709551615 ∨ (0 ≤ g i j ∧ g i j ≤ 2147483647 * (2 ^ m : Nat))
theorem pow_small {m : Nat} (h : m ≤ 12) : 2 ^ m ≤ 4096 := Nat.pow_le_pow_right (by omega) h
theorem ph_is {m : Nat} (h : OkD m g) (hm : m ≤ 12) (k i j : Nat) : Ds.ph g k i j = if g i k ≠ 18446744073709551615 ∧ g k j ≠ 18446744073709551615 then min (g i j) (g i k + g k j) else g i j := by
  have hp := pow_small hm
  generalize hP : 2 ^ m = P at hp
  have h1 := h i k
  have h2 := h k j
  rw [hP] at h1 h2
  unfold Ds.ph Ds.far
  split
  · rename_i hc
    rw [Ds.wrap_self (by omega) (by unfold Ds.far; omega)]
  · rfl
theorem ph_ok {m : Nat} (h : OkD m g) (hm : m ≤ 12) (k : Nat) : OkD (m + 1) (Ds.ph g k) := fun i j => by
  have hp := pow_small hm
  rw [ph_is h hm]
  have h1 := h i k
  have h2 := h k j
  have h3 := h i j
  rw [show (2 ^ (m + 1) : Nat) = 2 * 2 ^ m by rw [Nat.pow_succ]; omega]
  generalize 2 ^ m = P at *
  split
  · omega
  · omega
theorem ph_le {m : Nat} (h : OkD m g) (hm : m ≤ 12) (k i j : Nat) : Ds.ph g k i j ≤ g i j := by
  rw [ph_is h hm]
  split
  · omega
  · omega
theorem ph_by {m : Nat} (h : OkD m g) (hm : m ≤ 12) (k i j : Nat) (h1 : g i k ≠ 18446744073709551615) (h2 : g k j ≠ 18446744073709551615) : Ds.ph g k i j ≤ g i k + g k j := by
  rw [ph_is h hm, if_pos ⟨h1, h2⟩]
  omega
theorem ph_or {m : Nat} (h : OkD m g) (hm : m ≤ 12) (k i j : Nat) : Ds.ph g k i j = g i j ∨ (g i k ≠ 18446744073709551615 ∧ g k j ≠ 18446744073709551615 ∧ Ds.ph g k i j = g i k + g k j) := by
  rw [ph_is h hm]
  split
  · rename_i hc
    rcases Int.le_total (g i j) (g i k + g k j) with hl | hl
    · exact Or.inl (Int.min_eq_left hl)
    · exact Or.inr ⟨hc.1, hc.2, Int.min_eq_right hl⟩
  · exact Or.inl rfl
/-- no shorter way by a node below. -/
def Clo (g : Ds.Mx) (k : Nat) : Prop := ∀ i j m, m < k → g i m ≠ 18446744073709551615 → g m j ≠ 18446744073709551615 → g i j ≤ g i m + g m j
theorem clo_ph {q k : Nat} (hG : Ds.Good g) (ho : OkD q g) (hq : q ≤ 12) (hc : Clo g k) : Clo (Ds.ph g k) (k + 1) := fun i j m hm h1 h2 => by
  have hp := pow_small hq
  have hP : ∀ a b, g a b ≠ 18446744073709551615 → 0 ≤ g a b ∧ g a b ≤ 2147483647 * 4096 := fun a b hab => by
    have := ho a b
    generalize 2 ^ q = P at *
    omega
  by_cases hmk : m = k
  · subst hmk
    rw [Ds.ph_col hG] at h1 ⊢
    rw [Ds.ph_row hG] at h2 ⊢
    exact ph_by ho hq m i j h1 h2
  · have hmk' : m < k := by omega
    have hle := ph_le ho hq k i j
    rcases ph_or ho hq k i m with e1 | ⟨a1, a2, e1⟩ <;> rcases ph_or ho hq k m j with e2 | ⟨b1, b2, e2⟩
    · rw [e1] at h1
      rw [e2] at h2
      have := hc i j m hmk' h1 h2
      omega
    · rw [e1] at h1
      have c := hc i k m hmk' h1 b1
      have p1 := hP _ _ h1
      have p2 := hP _ _ b1
      have := ph_by ho hq k i j (by omega) b2
      omega
    · rw [e2] at h2
      have c := hc k j m hmk' a2 h2
      have p1 := hP _ _ a2
      have p2 := hP _ _ h2
      have := ph_by ho hq k i j a1 (by omega)
      omega
    · have p1 := hP _ _ a2
      have p2 := hP _ _ b1
      have := ph_by ho hq k i j a1 b2
      omega
/-- what is told is reached. -/
def Snd (zs : List (Int × Int × Int)) (g : Ds.Mx) : Prop := ∀ i j : Nat, g i j ≠ 18446744073709551615 → Reach zs (i : Int) (j : Int) (g i j)
theorem rcomp {i k d : Int} (h1 : Reach zs i k d) : ∀ (m : Nat) (j e : Int), ReachN zs k m j e → Reach zs i j (d + e)
  | 0, j, e, ⟨h2, h3⟩ => by
    subst h2
    subst h3
    rwa [Int.add_zero]
  | m + 1, j, e, ⟨u, x, r, h2, h3, h4⟩ => by
    obtain ⟨q, hq⟩ := rcomp h1 m u x h2
    exact ⟨q + 1, u, d + x, r, hq, h3, by omega⟩
theorem snd_ph {q k : Nat} (ho : OkD q g) (hq : q ≤ 12) (hs : Snd zs g) : Snd zs (Ds.ph g k) := fun i j h => by
  rcases ph_or ho hq k i j with e | ⟨h1, h2, e⟩
  · rw [e] at h ⊢
    exact hs i j h
  · rw [e]
    obtain ⟨m, hm⟩ := hs k j h2
    exact rcomp (hs i k h1) m _ _ hm
theorem phases (hG : Ds.Good g) (ho : OkD 0 g) (hs : Snd zs g) : ∀ k, k ≤ 12 → Ds.Good (Ds.phs g k) ∧ OkD k (Ds.phs g k) ∧ Snd zs (Ds.phs g k) ∧ Clo (Ds.phs g k) k ∧ ∀ i j, Ds.phs g k i j ≤ g i j
  | 0, _ => ⟨hG, ho, hs, fun i j m hm => by omega, fun i j => Int.le_refl _⟩
  | k + 1, hk => by
    obtain ⟨g1, g2, g3, g4, g5⟩ := phases hG ho hs k (by omega)
    exact ⟨Ds.ph_good g1 k, ph_ok g2 (by omega) k, snd_ph g2 (by omega) g3, clo_ph g1 g2 (by omega) g4, fun i j => Int.le_trans (ph_le g2 (by omega) k i j) (g5 i j)⟩
theorem ini_ok (h : Ds.Fine zs) : OkD 0 (Ds.ini zs) := fun i j => by
  rcases Ds.fold_or zs Ds.f00 i j with e | ⟨a, ha, _, _, e⟩
  · unfold Ds.ini
    rw [e]
    unfold Ds.f00 Ds.far
    split
    · exact Or.inr ⟨Int.le_refl _, by omega⟩
    · exact Or.inl rfl
  · unfold Ds.ini
    rw [e]
    have := h a ha
    exact Or.inr ⟨this.2.2.1, by omega⟩
theorem ini_snd (h : Ds.Fine zs) : Snd zs (Ds.ini zs) := fun i j hne => by
  rcases Ds.fold_or zs Ds.f00 i j with e | ⟨a, ha, h1, h2, e⟩
  · unfold Ds.ini at hne ⊢
    rw [e] at hne ⊢
    unfold Ds.f00 Ds.far at hne ⊢
    split
    · rename_i hij
      subst hij
      exact ⟨0, rfl, rfl⟩
    · rename_i hij
      rw [if_neg hij] at hne
      exact absurd rfl hne
  · unfold Ds.ini
    rw [e]
    obtain ⟨a0, a1, a2⟩ := a
    have hf := h _ ha
    simp only at h1 h2 hf
    refine ⟨1, (i : Int), 0, a2, ⟨rfl, rfl⟩, ?_, by simp⟩
    rw [show (i : Int) = a0 by omega, show (j : Int) = a1 by omega]
    exact ha
/-- the matrix tells the distances. -/
theorem dist_is {n : Nat} (hz : Fine n zs) (hn : n ≤ 12) {i j : Nat} (hi : i < n) (hj : j < n) {D : List Int} (hD : IsDist n zs i D) : D[j]? = some (Ds.dist n zs i j) := by
  have hf : Ds.Fine zs := fun a ha => by
    have := hz.ends a ha
    omega
  obtain ⟨g1, g2, g3, g4, g5⟩ := phases (Ds.ini_good hf) (ini_ok hf) (ini_snd hf) n hn
  have hlow : ∀ (m : Nat) (v d : Int), ReachN zs (i : Int) m v d → 0 ≤ v ∧ v < (n : Int) ∧ Ds.dist n zs i v.toNat ≤ d ∧ Ds.dist n zs i v.toNat ≠ 18446744073709551615 := by
    intro m
    induction m with
    | zero =>
      rintro v d ⟨rfl, rfl⟩
      have := g1.diag i
      rw [Int.toNat_natCast]
      unfold Ds.dist
      exact ⟨by omega, by omega, by omega, by omega⟩
    | succ m ih =>
      rintro v d ⟨u, e, r, h1, h2, h3⟩
      obtain ⟨q1, q2, q3, q4⟩ := ih u e h1
      have hen := hz.ends _ h2
      simp only at hen
      have ha := Int.le_trans (g5 u.toNat v.toNat) (Ds.fold_arc zs Ds.f00 (u, v, r) h2)
      simp only at ha
      have hb : Ds.phs (Ds.ini zs) n u.toNat v.toNat ≠ 18446744073709551615 := by omega
      have hc := g4 i v.toNat u.toNat (by omega) q4 hb
      have p := g2 i v.toNat
      have p1 := g2 i u.toNat
      have hp := pow_small hn
      unfold Ds.dist at q3 q4 ⊢
      generalize 2 ^ n = P at *
      exact ⟨by omega, by omega, by omega, by omega⟩
  obtain ⟨x, hx, hc⟩ := hD.2 j hj
  rw [hx]
  congr 1
  rcases hc with ⟨_, _, ⟨m, hm⟩, hle⟩ | ⟨hfar, hno⟩
  · obtain ⟨_, _, q3, q4⟩ := hlow m _ _ hm
    rw [Int.toNat_natCast] at q3 q4
    have := hle _ (g3 i j q4)
    unfold Ds.dist at *
    omega
  · by_cases hne : Ds.phs (Ds.ini zs) n i j = 18446744073709551615
    · unfold Ds.dist
      omega
    · exact absurd (g3 i j hne) (hno _)
end
end Go.Proofs.Ytefcmpdnlbpjpaa
