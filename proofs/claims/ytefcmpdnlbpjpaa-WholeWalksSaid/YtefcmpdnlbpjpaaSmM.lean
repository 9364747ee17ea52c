/- What the distances in a graph keep to; the arrays of a graph. -/
import Derived.Test.YtefcmpdnlbpjpaaSeY
import Derived.Test.YtefcmpdnlbpjpaaCsrBuW
import Derived.Test.YtefcmpdnlbpjpaaNoX
namespace Go.Proofs.Ytefcmpdnlbpjpaa
open Go.RowKit Go.Extern

section
variable {w : World} {n F T V k cap : Nat} {ao : Option Addr} {xs zs : List (Int × Int × Int)}
theorem rows_csr (hf : IntRow w F (n + 1) (fun u => firstAt zs u)) (ht : IntRow w T zs.length (fun i => (tos zs).getD i 0)) (hv : IntRow w V zs.length (fun i => (weights zs).getD i 0)) : CsrIn w n zs (some ⟨F, 0, none⟩) (some ⟨T, 0, none⟩) (some ⟨V, 0, none⟩) (n + 1) zs.length zs.length := by
  refine ⟨hf.ints (n + 1) (firsts_len n zs) fun i a hi => ?_, ht.ints zs.length (tos_len zs) fun i a hi => ?_, hv.ints zs.length (weights_len zs) fun i a hi => ?_⟩
  · have hl := (List.getElem?_eq_some_iff.1 hi).1
    rw [firsts_len] at hl
    rw [firsts_at zs (show i ≤ n by omega)] at hi
    exact Option.some.inj hi
  · show (tos zs).getD i 0 = a
    rw [List.getD_eq_getElem?_getD, hi]; rfl
  · show (weights zs).getD i 0 = a
    rw [List.getD_eq_getElem?_getD, hi]; rfl
theorem build_csr (hl : HasArcs w (.slice ao k cap) xs) (hg : graphErr (n : Int) xs = (0, [])) : Calls Try.prog 4 #[.agg #[.int .i64 n, .slice ao k cap]] w fun e w' => ∃ F T V, e = .returned (.tuple #[.agg #[.slice (some ⟨F, 0, none⟩) (n + 1) (n + 1), .slice (some ⟨T, 0, none⟩) (normA xs).length (normA xs).length, .slice (some ⟨V, 0, none⟩) (normA xs).length (normA xs).length], .nilIface]) ∧ CsrIn w' n (normA xs) (some ⟨F, 0, none⟩) (some ⟨T, 0, none⟩) (some ⟨V, 0, none⟩) (n + 1) (normA xs).length (normA xs).length ∧ Below w.heap.size w w' := by
  refine (build_good n ao _ cap xs w hl hg).mono ?_
  rintro e w' ⟨F, T, V, rfl, _, hf, ht, hv, hb⟩
  exact ⟨F, T, V, rfl, rows_csr hf ht hv, hb⟩
end
section
variable {n : Nat} {zs xs : List (Int × Int × Int)}
theorem reachN_comp {i k d : Int} (h1 : Reach zs i k d) : ∀ (m : Nat) (j e : Int), ReachN zs k m j e → Reach zs i j (d + e)
  | 0, j, e, ⟨h2, h3⟩ => by
    rw [h2, h3, Int.add_zero]
    exact h1
  | m + 1, j, e, ⟨u, e', r, h2, h3, h4⟩ => by
    obtain ⟨q, hq⟩ := reachN_comp h1 m u e' h2
    exact ⟨q + 1, u, d + e', r, hq, h3, by omega⟩
theorem dist_self {s : Nat} {D : List Int} (h : IsDist n zs s D) (hs : s < n) : D[s]? = some 0 := by
  obtain ⟨x, hx, h1⟩ := h.2 s hs
  have h0 : Reach zs (s : Int) (s : Int) 0 := ⟨0, rfl, rfl⟩
  rcases h1 with ⟨a, _, _, b⟩ | ⟨_, b⟩
  · have := b 0 h0
    rw [hx]
    congr 1
    omega
  · exact absurd h0 (b 0)
/-- never more than by way of another node. -/
theorem dist_tri {i k j : Nat} {A B : List Int} (hi : IsDist n zs i A) (hk : IsDist n zs k B) (hkn : k < n) (hj : j < n) {x y z : Int} (h1 : A[k]? = some x) (h2 : B[j]? = some y) (h3 : A[j]? = some z) (hx : x ≠ 18446744073709551615) (hy : y ≠ 18446744073709551615) : z ≤ x + y ∧ 0 ≤ x ∧ x ≤ 140737488355328 ∧ 0 ≤ y ∧ y ≤ 140737488355328 := by
  obtain ⟨x', e1, g1⟩ := hi.2 k hkn
  rw [h1] at e1
  cases e1
  obtain ⟨y', e2, g2⟩ := hk.2 j hj
  rw [h2] at e2
  cases e2
  obtain ⟨z', e3, g3⟩ := hi.2 j hj
  rw [h3] at e3
  cases e3
  rcases g1 with ⟨a0, a1, a2, _⟩ | ⟨e, _⟩
  · rcases g2 with ⟨b0, b1, ⟨m, b2⟩, _⟩ | ⟨e, _⟩
    · have hr := reachN_comp a2 m _ _ b2
      rcases g3 with ⟨_, _, _, c3⟩ | ⟨_, c⟩
      · exact ⟨c3 _ hr, a0, a1, b0, b1⟩
      · exact absurd hr (c _)
    · exact absurd e hy
  · exact absurd e hx
/-- never more than an arc. -/
theorem dist_arc {i j : Nat} {A : List Int} (hi : IsDist n (normA xs) i A) (hin : i < n) (hj : j < n) {r : Int} (hr : 0 ≤ r) (h : ((i : Int), (j : Int), r) ∈ xs) {z : Int} (h3 : A[j]? = some z) : z ≤ r := by
  by_cases e : i = j
  · subst e
    rw [dist_self hi hin] at h3
    cases h3
    exact hr
  · obtain ⟨b, hb, hs, hle⟩ := (normA_norm xs).all ((i : Int), (j : Int), r) (kept_mem.2 ⟨h, by simp; omega⟩)
    obtain ⟨b0, b1, b2⟩ := b
    obtain ⟨s1, s2⟩ := hs
    simp only at s1 s2 hle
    subst s1
    subst s2
    have hre : Reach (normA xs) (i : Int) (j : Int) b2 := ⟨1, (i : Int), 0, b2, ⟨rfl, rfl⟩, hb, by omega⟩
    obtain ⟨z', e3, g3⟩ := hi.2 j hj
    rw [h3] at e3
    cases e3
    rcases g3 with ⟨_, _, _, c3⟩ | ⟨_, c⟩
    · have := c3 _ hre
      omega
    · exact absurd hre (c _)
/-- there is an arc by which the distance is reached. -/
theorem dist_last {i j : Nat} {A : List Int} (hz : Fine n (normA xs)) (hi : IsDist n (normA xs) i A) (hj : j < n) (hne : i ≠ j) {z : Int} (h3 : A[j]? = some z) (hf : z ≠ 18446744073709551615) : ∃ (u : Nat) (r y : Int), ((u : Int), (j : Int), r) ∈ xs ∧ u < n ∧ u ≠ j ∧ A[u]? = some y ∧ y ≠ 18446744073709551615 ∧ y + r = z := by
  obtain ⟨z', e3, g3⟩ := hi.2 j hj
  rw [h3] at e3
  cases e3
  rcases g3 with ⟨_, c1, ⟨m, c2⟩, c3⟩ | ⟨c, _⟩
  · cases m with
    | zero => obtain ⟨e, _⟩ := c2; omega
    | succ m =>
      obtain ⟨u, e, r, h1, h2, h4⟩ := c2
      have he := hz.ends _ h2
      simp only at he
      obtain ⟨p, rfl⟩ : ∃ p : Nat, u = (p : Int) := ⟨u.toNat, by omega⟩
      have hs := norm_sub h2
      simp only at hs
      obtain ⟨y, hy, g⟩ := hi.2 p (by omega)
      have hre : Reach (normA xs) (i : Int) (p : Int) e := ⟨m, h1⟩
      refine ⟨p, r, y, hs.1, by omega, by omega, hy, ?_⟩
      rcases g with ⟨a0, a1, ⟨q, a2⟩, a3⟩ | ⟨_, a⟩
      · have l1 := a3 _ hre
        have l2 := c3 (y + r) ⟨q + 1, (p : Int), y, r, a2, h2, rfl⟩
        exact ⟨by omega, by omega⟩
      · exact absurd hre (a _)
  · exact absurd c hf
end
end Go.Proofs.Ytefcmpdnlbpjpaa
