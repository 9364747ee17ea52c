/- What the closed law asks of: its graphs, as lists; the greatest graph; the program's calls at graphs, told by lists. -/
import Derived.Test.YtldfhkdccbgdnaaDoorOfAll
import Derived.Test.YtldfhkdccbgdnaaDoorIsAll
import Derived.Test.YtldfhkdccbgdnaaDoorMerge
import Derived.Test.YtldfhkdccbgdnaaDoorDeg
import Derived.Test.YtldfhkdccbgdnaaDoorSameG
import Derived.Test.YtldfhkdccbgdnaaDoorSeen
import Derived.Test.YtldfhkdccbgdnaaDoorInts
namespace Go.Proofs.YtldfhkdccbgdnaaDoor
open Go.RowKit Go.Extern

theorem firstBad_iff (N : Int) : ∀ (xs : List (Int × Int × Int)) (i : Nat), firstBad N xs i = none ↔ ∀ a ∈ xs, arcBad N a = 0
  | [], i => by simp [firstBad]
  | a :: r, i => by
    unfold firstBad
    by_cases h : arcBad N a = 0
    · rw [if_pos h, firstBad_iff N r (i + 1)]
      simp [h]
    · rw [if_neg h]
      simp [h]
theorem good_of (N : Int) (xs : List (Int × Int × Int)) (h : ¬ (N < 0 ∨ 65536 < N ∨ 262144 < xs.length)) (h2 : ∀ a ∈ xs, arcBad N a = 0) : graphErr N xs = (0, []) := by
  unfold graphErr
  rw [if_neg h, (firstBad_iff N xs 0).2 h2]
theorem told_iface {w : World} {e : Int × List (Int × Int)} {v : Value} (h : IsTold w e v) (he : e ≠ (0, [])) : ∃ T x, v = .iface T x := by
  rcases h with ⟨h1, _⟩ | ⟨_, h2⟩
  · exact absurd h1 he
  · obtain ⟨c, ps⟩ := e
    cases ps with
    | nil => exact ⟨_, _, h2⟩
    | cons p r => obtain ⟨b, u, e, _⟩ := h2; exact ⟨_, _, e⟩
theorem told_ok {w : World} {v : Value} (h : IsTold w (0, []) v) : v = .nilIface := by
  rcases h with ⟨_, h2⟩ | ⟨h1, _⟩
  · exact h2
  · exact absurd rfl h1
theorem arcs_len {w : World} {ao : Option Addr} {n cap : Nat} {xs : List (Int × Int × Int)} (h : HasArcs w (.slice ao n cap) xs) : n = xs.length := by
  obtain ⟨ao', cap', e, _⟩ := h
  injection e

/-- arcs of nothing but noughts. -/
theorem zero_cells (n : Nat) (w : World) : HasArcs (w.alloc (.cells (madeCells #[.int .i64 0, .int .i64 0, .int .i64 0] (n * 3)) 51)) (.slice (some ⟨w.heap.size, 0, none⟩) n n) (List.replicate n (0, 0, 0)) := by
  refine ⟨some ⟨w.heap.size, 0, none⟩, n, by rw [List.length_replicate], fun j a hj => ?_⟩
  rw [List.getElem?_replicate] at hj
  split at hj
  · rename_i hlt
    cases hj
    refine ⟨w.heap.size, 0, rfl, by simp, ?_⟩
    have hk := heap_new w (.cells (madeCells #[.int .i64 0, .int .i64 0, .int .i64 0] (n * 3)) 51)
    have hc : ∀ q, q < n * 3 → (w.alloc (.cells (madeCells #[.int .i64 0, .int .i64 0, .int .i64 0] (n * 3)) 51)).cell? ⟨w.heap.size, q, none⟩ = some (.int .i64 0) := fun q hq => by
      have e1 : (w.alloc (.cells (madeCells #[.int .i64 0, .int .i64 0, .int .i64 0] (n * 3)) 51)).cell? ⟨w.heap.size, q, none⟩ = (madeCells #[.int .i64 0, .int .i64 0, .int .i64 0] (n * 3))[q]? := by simp only [World.cell?, hk]; rfl
      rw [e1]
      rcases (show q % 3 = 0 ∨ q % 3 = 1 ∨ q % 3 = 2 by omega) with e | e | e <;> simp [madeCells, hq, e]
    exact ⟨hc _ (by omega), hc _ (by omega), hc _ (by omega)⟩
  · cases hj
theorem infoArc : (Tryd.prog.info? 51).map (fun i => (i.zero, i.size, i.bytes)) = some (some (.agg #[.int .i64 0, .int .i64 0, .int .i64 0]), 3, 24) := by kernel_rfl
theorem make_arcs (n : Nat) (hn : n ≤ 262144) (w : World) : (Instr.makeSlice 22 (.int .i64 (n : Int)) (.int .i64 (n : Int))).run Tryd.prog w = .ok (.slice (some ⟨w.heap.size, 0, none⟩) n n) (w.alloc (.cells (madeCells #[.int .i64 0, .int .i64 0, .int .i64 0] (n * 3)) 51)) := by
  obtain ⟨i, hi, hzz⟩ := Option.map_eq_some_iff.1 infoArc
  simp only [Prod.mk.injEq] at hzz
  obtain ⟨hz, hs, hb⟩ := hzz
  have hr := run_make (P := Tryd.prog) w 22 51 i _ Tryd.underlying22 hi hz .i64 .i64 n n (by omega) (Int.le_refl _) (by rw [hb]; omega) (by omega)
  simp only [Int.toNat_natCast, hs] at hr
  exact hr
theorem norm_zero (n : Nat) : normA (List.replicate n (0, 0, 0)) = [] := by
  have h : kept (List.replicate n ((0, 0, 0) : Int × Int × Int)) = [] := by
    unfold kept
    rw [List.filter_eq_nil_iff]
    intro a ha
    rw [List.eq_of_mem_replicate ha]
    simp
  unfold normA
  rw [h]
  rfl
theorem good_zero (n : Nat) (hn : n ≤ 262144) : graphErr 2 (List.replicate n (0, 0, 0)) = (0, []) := by
  refine good_of _ _ (by rw [List.length_replicate]; omega) fun a ha => ?_
  rw [List.eq_of_mem_replicate ha]
  rfl
/-- the greatest graph. -/
theorem great_graph : ∃ (C : Array Value) (Z : List (Int × Int × Int)), (∀ w : World, (Instr.makeSlice 22 (.int .i64 262144) (.int .i64 262144)).run Tryd.prog w = .ok (.slice (some ⟨w.heap.size, 0, none⟩) 262144 262144) (w.alloc (.cells C 51))) ∧ (∀ w : World, HasArcs (w.alloc (.cells C 51)) (.slice (some ⟨w.heap.size, 0, none⟩) 262144 262144) Z) ∧ Z.length = 262144 ∧ graphErr 2 Z = (0, []) ∧ normA Z = [] :=
  ⟨_, _, fun w => make_arcs 262144 (Nat.le_refl _) w, fun w => zero_cells 262144 w, List.length_replicate, good_zero _ (Nat.le_refl _), norm_zero _⟩
end Go.Proofs.YtldfhkdccbgdnaaDoor
