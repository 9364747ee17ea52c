/- Of, Reverse and Merge and the document's answers, whatever the graph: one answer each, the program's in memory of its own. -/
import Derived.Test.YtbfopkhdngfanaaOfAll
import Derived.Test.YtbfopkhdngfanaaMerge
import Derived.Test.YtbfopkhdngfanaaBoth
import Derived.Test.YtbfopkhdngfanaaRefMerge
import Derived.Test.YtbfopkhdngfanaaDocOf
import Derived.Test.YtbfopkhdngfanaaIsAll
import Derived.Test.YtbfopkhdngfanaaDeg
namespace Go.Proofs.Ytbfopkhdngfanaa
open Go.RowKit Go.Extern

/-- what the program answers: a graph whose arcs lie in memory of their own. -/
def GA (w : World) (K : Int) (Y : List (Int × Int × Int)) (e : Ending) (w' : World) : Prop := ∃ lo lc v, e = .returned (.tuple #[.agg #[.int .i64 K, .slice lo Y.length lc], v]) ∧ OA w.heap.size w' lo Y.length lc Y ∧ Below w.heap.size w w'
/-- what the document answers. -/
def DA (w : World) (K : Int) (Y : List (Int × Int × Int)) (e : Ending) (w' : World) : Prop := ∃ lo lc C po pl pc, e = .returned (.tuple #[.agg #[.int .i64 K, .slice lo Y.length lc], .agg #[.int .i64 C, .slice po pl pc]]) ∧ HasArcs w' (.slice lo Y.length lc) Y ∧ NewA w.heap.size (.slice lo Y.length lc) ∧ Below w.heap.size w w'
theorem arcs_lenM {w : World} {ao : Option Addr} {n cap : Nat} {xs : List (Int × Int × Int)} (h : HasArcs w (.slice ao n cap) xs) : n = xs.length := by
  obtain ⟨ao', cap', e, _⟩ := h
  injection e
theorem shortM {N : Int} {xs : List (Int × Int × Int)} (h : graphErr N xs = (0, [])) : xs.length ≤ 262144 := by
  unfold graphErr at h
  split at h
  · simp at h
  · omega
section
variable (N : Int) (xs : List (Int × Int × Int)) (hm : xs.length ≤ maxLen)
include hm
theorem of_ans : ∃ (K : Int) (Y : List (Int × Int × Int)), Y.length ≤ 262144 ∧
    (∀ w ao cap, HasArcs w (.slice ao xs.length cap) xs → Calls Try.prog 7 #[.agg #[.int .i64 N, .slice ao xs.length cap]] w (GA w K Y)) ∧
    (∀ w ao cap, HasArcs w (.slice ao xs.length cap) xs → Calls Try.prog 13 #[.agg #[.int .i64 N, .slice ao xs.length cap]] w (DA w K Y)) := by
  by_cases hg : graphErr N xs = (0, [])
  · refine ⟨N, normA xs, Nat.le_trans (normA_len xs) (shortM hg), fun w ao cap hl => ?_, fun w ao cap hl => ?_⟩
    · refine (of_all N ao cap xs w hl hm).mono ?_
      rintro e w' ⟨M, lo, n, lc, v, ys, rfl, hA, _, _, hc, hb⟩
      rcases hc with ⟨_, rfl, rfl⟩ | ⟨h, _⟩
      · obtain rfl := arcs_lenM hA.1
        exact ⟨lo, lc, v, rfl, hA, hb⟩
      · exact absurd hg h
    · refine (docOf_calls N ao cap xs w hl hm).mono ?_
      rintro e w' ⟨M, lo, n, lc, ys, po, pc, rfl, hA, hn, _, hc, hb⟩
      rcases hc with ⟨_, rfl, rfl⟩ | ⟨h, _⟩
      · obtain rfl := arcs_lenM hA
        exact ⟨lo, lc, _, _, _, _, rfl, hA, hn, hb⟩
      · exact absurd hg h
  · refine ⟨0, [], by simp, fun w ao cap hl => ?_, fun w ao cap hl => ?_⟩
    · refine (of_all N ao cap xs w hl hm).mono ?_
      rintro e w' ⟨M, lo, n, lc, v, ys, rfl, hA, _, _, hc, hb⟩
      rcases hc with ⟨h, _⟩ | ⟨_, rfl, rfl⟩
      · exact absurd h hg
      · obtain rfl := arcs_lenM hA.1
        exact ⟨lo, lc, v, rfl, hA, hb⟩
    · refine (docOf_calls N ao cap xs w hl hm).mono ?_
      rintro e w' ⟨M, lo, n, lc, ys, po, pc, rfl, hA, hn, _, hc, hb⟩
      rcases hc with ⟨h, _⟩ | ⟨_, rfl, rfl⟩
      · exact absurd h hg
      · obtain rfl := arcs_lenM hA
        exact ⟨lo, lc, _, _, _, _, rfl, hA, hn, hb⟩
theorem rev_ans : ∃ (K : Int) (Y : List (Int × Int × Int)), Y.length ≤ 262144 ∧
    (∀ w ao cap, HasArcs w (.slice ao xs.length cap) xs → Calls Try.prog 8 #[.agg #[.int .i64 N, .slice ao xs.length cap]] w (GA w K Y)) ∧
    (∀ w ao cap, HasArcs w (.slice ao xs.length cap) xs → Calls Try.prog 14 #[.agg #[.int .i64 N, .slice ao xs.length cap]] w (DA w K Y)) := by
  by_cases hg : graphErr N xs = (0, [])
  · refine ⟨N, xs.map turn, by rw [List.length_map]; exact shortM hg, fun w ao cap hl => ?_, fun w ao cap hl => ?_⟩
    · refine (reverse_calls N ao cap xs w hl hm).mono ?_
      rintro e w' ⟨M, lo, n, lc, v, ys, rfl, hA, _, _, hc, hb⟩
      rcases hc with ⟨_, rfl, rfl⟩ | ⟨h, _⟩
      · obtain rfl := arcs_lenM hA.1
        exact ⟨lo, lc, v, rfl, hA, hb⟩
      · exact absurd hg h
    · refine (docReverse_calls N ao cap xs w hl hm).mono ?_
      rintro e w' ⟨M, lo, n, lc, ys, po, pc, rfl, hA, hn, _, hc, hb⟩
      rcases hc with ⟨_, rfl, rfl⟩ | ⟨h, _⟩
      · obtain rfl := arcs_lenM hA
        exact ⟨lo, lc, _, _, _, _, rfl, hA, hn, hb⟩
      · exact absurd hg h
  · refine ⟨0, [], by simp, fun w ao cap hl => ?_, fun w ao cap hl => ?_⟩
    · refine (reverse_calls N ao cap xs w hl hm).mono ?_
      rintro e w' ⟨M, lo, n, lc, v, ys, rfl, hA, _, _, hc, hb⟩
      rcases hc with ⟨h, _⟩ | ⟨_, rfl, rfl⟩
      · exact absurd h hg
      · obtain rfl := arcs_lenM hA.1
        exact ⟨lo, lc, v, rfl, hA, hb⟩
    · refine (docReverse_calls N ao cap xs w hl hm).mono ?_
      rintro e w' ⟨M, lo, n, lc, ys, po, pc, rfl, hA, hn, _, hc, hb⟩
      rcases hc with ⟨h, _⟩ | ⟨_, rfl, rfl⟩
      · exact absurd h hg
      · obtain rfl := arcs_lenM hA
        exact ⟨lo, lc, _, _, _, _, rfl, hA, hn, hb⟩
theorem merge_ans : ∃ (K : Int) (Y : List (Int × Int × Int)), Y.length ≤ 262144 ∧
    (∀ w ao cap, HasArcs w (.slice ao xs.length cap) xs → (ao = none → cap = 0) → Calls Try.prog 9 #[.agg #[.int .i64 N, .slice ao xs.length cap], .agg #[.int .i64 N, .slice ao xs.length cap]] w (GA w K Y)) ∧
    (∀ w ao cap, HasArcs w (.slice ao xs.length cap) xs → Calls Try.prog 15 #[.agg #[.int .i64 N, .slice ao xs.length cap], .agg #[.int .i64 N, .slice ao xs.length cap]] w (DA w K Y)) := by
  have hE : bothErr N N xs xs = (0, []) → xs.length + xs.length ≤ 262144 := fun h => by
    unfold bothErr at h
    split at h
    · rename_i h1; exact absurd h h1
    · split at h
      · simp at h
      · split at h
        · simp at h
        · omega
  have hM : ∀ w ao cap, HasArcs w (.slice ao xs.length cap) xs → (ao = none → cap = 0) → Calls Try.prog 9 #[.agg #[.int .i64 N, .slice ao xs.length cap], .agg #[.int .i64 N, .slice ao xs.length cap]] w _ := fun w ao cap hl hn =>
    merge_of (bothErr N N xs xs) N N ao ao cap cap xs xs w hl hl hn hn (fun wx h1 h2 => both_calls N N ao ao cap cap xs xs wx h1 h2 hm hm) hE
  by_cases hg : bothErr N N xs xs = (0, [])
  · refine ⟨N, xs ++ xs, by rw [List.length_append]; exact hE hg, fun w ao cap hl hn => ?_, fun w ao cap hl => ?_⟩
    · refine (hM w ao cap hl hn).mono ?_
      rintro e w' ⟨M, lo, n, lc, v, ys, rfl, hA, _, _, hc, hb⟩
      rcases hc with ⟨_, rfl, rfl⟩ | ⟨h, _⟩
      · obtain rfl := arcs_lenM hA.1
        exact ⟨lo, lc, v, rfl, hA, hb⟩
      · exact absurd hg h
    · refine (docMerge_calls N N ao ao cap cap xs xs w hl hl hm hm).mono ?_
      rintro e w' ⟨M, lo, n, lc, ys, po, pc, rfl, hA, hn, _, hc, hb⟩
      rcases hc with ⟨_, rfl, rfl⟩ | ⟨h, _⟩
      · obtain rfl := arcs_lenM hA
        exact ⟨lo, lc, _, _, _, _, rfl, hA, hn, hb⟩
      · exact absurd hg h
  · refine ⟨0, [], by simp, fun w ao cap hl hn => ?_, fun w ao cap hl => ?_⟩
    · refine (hM w ao cap hl hn).mono ?_
      rintro e w' ⟨M, lo, n, lc, v, ys, rfl, hA, _, _, hc, hb⟩
      rcases hc with ⟨h, _⟩ | ⟨_, rfl, rfl⟩
      · exact absurd h hg
      · obtain rfl := arcs_lenM hA.1
        exact ⟨lo, lc, v, rfl, hA, hb⟩
    · refine (docMerge_calls N N ao ao cap cap xs xs w hl hl hm hm).mono ?_
      rintro e w' ⟨M, lo, n, lc, ys, po, pc, rfl, hA, hn, _, hc, hb⟩
      rcases hc with ⟨h, _⟩ | ⟨_, rfl, rfl⟩
      · exact absurd h hg
      · obtain rfl := arcs_lenM hA
        exact ⟨lo, lc, _, _, _, _, rfl, hA, hn, hb⟩
theorem is_any (w : World) (ao : Option Addr) (cap : Nat) (hl : HasArcs w (.slice ao xs.length cap) xs) : Calls Try.prog 10 #[.agg #[.int .i64 N, .slice ao xs.length cap]] w fun e w' => ∃ b v, e = .returned (.tuple #[.bool b, v]) ∧ Below w.heap.size w w' := by
  refine (is_all N ao cap xs w hl hm).mono ?_
  rintro e w' ⟨v, rfl, _, hb⟩
  exact ⟨_, v, rfl, hb⟩
theorem deg_any (w : World) (ao : Option Addr) (cap : Nat) (hl : HasArcs w (.slice ao xs.length cap) xs) : Calls Try.prog 11 #[.agg #[.int .i64 N, .slice ao xs.length cap]] w fun e w' => ∃ a b v, e = .returned (.tuple #[a, b, v]) ∧ Below w.heap.size w w' := by
  refine (degrees_calls N ao cap xs w hl hm).mono ?_
  rintro e w' ⟨v, fv, tv, fl, tl, rfl, _, _, _, _, _, hb⟩
  exact ⟨fv, tv, v, rfl, hb⟩
end
end Go.Proofs.Ytbfopkhdngfanaa
