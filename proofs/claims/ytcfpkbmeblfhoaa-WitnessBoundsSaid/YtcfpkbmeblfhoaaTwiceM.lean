/- What the normal graph of a graph is, turned about or made normal twice; and the program's calls at right graphs, told by lists. -/
import Derived.Test.YtcfpkbmeblfhoaaOfAll
namespace Go.Proofs.Ytcfpkbmeblfhoaa
open Go.RowKit Go.Extern

theorem firstBad_none (N : Int) : ∀ (xs : List (Int × Int × Int)) (i : Nat), firstBad N xs i = none ↔ ∀ a ∈ xs, arcBad N a = 0
  | [], i => by simp [firstBad]
  | a :: r, i => by
    unfold firstBad
    by_cases h : arcBad N a = 0
    · rw [if_pos h, firstBad_none N r (i + 1)]
      simp [h]
    · rw [if_neg h]
      simp [h]
theorem good_iff (N : Int) (xs : List (Int × Int × Int)) : graphErr N xs = (0, []) ↔ (¬ (N < 0 ∨ 65536 < N ∨ 262144 < xs.length)) ∧ ∀ a ∈ xs, arcBad N a = 0 := by
  unfold graphErr
  by_cases h : N < 0 ∨ 65536 < N ∨ 262144 < xs.length
  · rw [if_pos h]; simp [h]
  · rw [if_neg h]
    cases hf : firstBad N xs 0 with
    | none => exact ⟨fun _ => ⟨h, (firstBad_none N xs 0).1 hf⟩, fun _ => rfl⟩
    | some q =>
      obtain ⟨i, c⟩ := q
      simp only [Prod.mk.injEq, List.cons_ne_nil, and_false, false_iff]
      rintro ⟨_, h2⟩
      rw [(firstBad_none N xs 0).2 h2] at hf
      cases hf
theorem kept_mem {xs : List (Int × Int × Int)} {a : Int × Int × Int} : a ∈ kept xs ↔ a ∈ xs ∧ a.1 ≠ a.2.1 := by
  unfold kept
  simp [List.mem_filter]
theorem norm_sub {xs : List (Int × Int × Int)} {a : Int × Int × Int} (h : a ∈ normA xs) : a ∈ xs ∧ a.1 ≠ a.2.1 := kept_mem.1 ((normA_norm xs).of a h)
theorem good_norm {N : Int} {xs : List (Int × Int × Int)} (h : graphErr N xs = (0, [])) : graphErr N (normA xs) = (0, []) := by
  rw [good_iff] at *
  have := normA_len xs
  exact ⟨by omega, fun a ha => h.2 a (norm_sub ha).1⟩
theorem turn_turn (xs : List (Int × Int × Int)) : (xs.map turn).map turn = xs := by
  rw [List.map_map]
  have : turn ∘ turn = id := by funext a; rfl
  rw [this, List.map_id]
theorem good_turn {N : Int} {xs : List (Int × Int × Int)} (h : graphErr N xs = (0, [])) : graphErr N (xs.map turn) = (0, []) := by
  rw [good_iff] at *
  rw [List.length_map]
  refine ⟨h.1, fun a ha => ?_⟩
  obtain ⟨b, hb, rfl⟩ := List.mem_map.1 ha
  have := h.2 b hb
  unfold arcBad turn at *
  simp only at *
  split at this
  · cases this
  · split at this
    · cases this
    · rw [if_neg (by omega), if_neg (by omega)]
theorem norm_twice (xs : List (Int × Int × Int)) : normA (normA xs) = normA xs := (norm_self _).2 ⟨fun _ ha => (norm_sub ha).2, (normA_norm xs).rise⟩
theorem mem_turn {l : List (Int × Int × Int)} {a : Int × Int × Int} : a ∈ l.map turn ↔ turn a ∈ l := by
  rw [List.mem_map]
  constructor
  · rintro ⟨b, hb, rfl⟩; exact hb
  · intro h; exact ⟨turn a, h, rfl⟩
/-- the normal graph of what is turned is that of the turned normal graph. -/
theorem norm_turn (xs : List (Int × Int × Int)) : normA (xs.map turn) = normA ((normA xs).map turn) := by
  refine NormOf.unique (normA_norm (xs.map turn)) ?_
  have h := normA_norm ((normA xs).map turn)
  refine ⟨h.rise, fun x hx => ?_, fun y hy => ?_⟩
  · obtain ⟨h1, h2⟩ := kept_mem.1 (h.of x hx)
    exact kept_mem.2 ⟨mem_turn.2 (norm_sub (mem_turn.1 h1)).1, h2⟩
  · obtain ⟨h1, h2⟩ := kept_mem.1 hy
    obtain ⟨b, hb, hs, hw⟩ := (normA_norm xs).all (turn y) (kept_mem.2 ⟨mem_turn.1 h1, Ne.symm h2⟩)
    obtain ⟨c, hc, hs2, hw2⟩ := h.all (turn b) (kept_mem.2 ⟨List.mem_map.2 ⟨b, hb, rfl⟩, Ne.symm (norm_sub hb).2⟩)
    refine ⟨c, hc, ?_, Int.le_trans hw2 hw⟩
    unfold sameA turn at *
    simp only at *
    exact ⟨hs2.1.trans hs.2, hs2.2.trans hs.1⟩
theorem norm_rise (xs : List (Int × Int × Int)) {i : Nat} {a b : Int × Int × Int} (ha : (normA xs)[i]? = some a) (hb : (normA xs)[i + 1]? = some b) : lessA a b := by
  have h := (normA_norm xs).rise
  unfold RiseA at h
  rw [List.pairwise_iff_getElem] at h
  obtain ⟨h1, e1⟩ := List.getElem?_eq_some_iff.1 ha
  obtain ⟨h2, e2⟩ := List.getElem?_eq_some_iff.1 hb
  have := h i (i + 1) h1 h2 (Nat.lt_succ_self _)
  rwa [e1, e2] at this

theorem told_iface {w : World} {e : Int × List (Int × Int)} {v : Value} (h : IsTold w e v) (he : e ≠ (0, [])) : ∃ T x, v = .iface T x := by
  rcases h with ⟨h1, _⟩ | ⟨_, h2⟩
  · exact absurd h1 he
  · obtain ⟨c, ps⟩ := e
    cases ps with
    | nil => exact ⟨_, _, h2⟩
    | cons p r => obtain ⟨b, u, e, _⟩ := h2; exact ⟨_, _, e⟩
theorem told_ok {w : World} {v : Value} (h : IsTold w (0, []) v) : v = .nilIface := by
  rcases h with ⟨_, h2⟩ | ⟨h1, _⟩
  · exact h2
  · exact absurd rfl h1

section
variable {N : Int} {ao : Option Addr} {n cap : Nat} {xs : List (Int × Int × Int)} {w : World}
theorem arcs_len (h : HasArcs w (.slice ao n cap) xs) : n = xs.length := by
  obtain ⟨ao', cap', e, _⟩ := h
  injection e
theorem of_good (hl : HasArcs w (.slice ao n cap) xs) (hg : graphErr N xs = (0, [])) : Calls Try.prog 13 #[.agg #[.int .i64 N, .slice ao n cap]] w fun e w' => ∃ lo k lc, e = .returned (.tuple #[.agg #[.int .i64 N, .slice lo k lc], .nilIface]) ∧ HasArcs w' (.slice lo k lc) (normA xs) ∧ Below w.heap.size w w' := by
  have hn := arcs_len hl
  subst hn
  have hm := ((good_iff N xs).1 hg).1
  refine (of_all N ao cap xs w hl (by unfold maxLen; omega)).mono ?_
  rintro e w' ⟨M, lo, k, lc, v, ys, rfl, hA, _, hT, h | h, hB⟩
  · obtain ⟨_, rfl, rfl⟩ := h
    rw [hg] at hT
    rw [told_ok hT]
    exact ⟨lo, k, lc, rfl, hA, hB⟩
  · exact absurd hg h.1
theorem of_bad (hl : HasArcs w (.slice ao n cap) xs) (hm : xs.length ≤ maxLen) (hg : graphErr N xs ≠ (0, [])) : Calls Try.prog 13 #[.agg #[.int .i64 N, .slice ao n cap]] w fun e w' => ∃ lo lc T x, e = .returned (.tuple #[.agg #[.int .i64 0, .slice lo 0 lc], .iface T x]) ∧ Below w.heap.size w w' := by
  have hn := arcs_len hl
  subst hn
  refine (of_all N ao cap xs w hl hm).mono ?_
  rintro e w' ⟨M, lo, k, lc, v, ys, rfl, hA, _, hT, h | h, hB⟩
  · exact absurd h.1 hg
  · obtain ⟨_, rfl, rfl⟩ := h
    obtain ⟨T, x, rfl⟩ := told_iface hT hg
    have := arcs_len hA
    subst this
    exact ⟨lo, lc, T, x, rfl, hB⟩
end
end Go.Proofs.Ytcfpkbmeblfhoaa
