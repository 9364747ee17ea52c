/- The program's calls at the closed law's graphs, told by lists; graphs in boxes; literals. -/
import Derived.Test.YtldfhkdccbgdnaaDoorFixM
import Derived.Test.YtldfhkdccbgdnaaDoorBoth
import Derived.Test.YtldfhkdccbgdnaaDoorDocCheck
namespace Go.Proofs.YtldfhkdccbgdnaaDoor
open Go.RowKit Go.Extern

/-- a graph in a box of its own, its arcs in memory. -/
structure Gr (wx : World) (b : Nat) (N : Int) (ao : Option Addr) (n cap : Nat) (xs : List (Int × Int × Int)) : Prop where
  box : wx.heap[b]? = some (.cells #[.int .i64 N, .slice ao n cap] 24)
  arcs : HasArcs wx (.slice ao n cap) xs
section
variable {w wx w' : World} {b : Nat} {N : Int} {ao : Option Addr} {n cap : Nat} {xs : List (Int × Int × Int)}
theorem Gr.keep (h : Gr wx b N ao n cap xs) (hb : Below wx.heap.size wx w') : Gr w' b N ao n cap xs := ⟨(hb.block _ (lt_of_get h.box)).trans h.box, h.arcs.keep hb⟩
theorem Gr.cells (h : Gr wx b N ao n cap xs) : wx.cell? ⟨b, 0, none⟩ = some (.int .i64 N) ∧ wx.cell? ⟨b, 1, none⟩ = some (.slice ao n cap) ∧ b < wx.heap.size := ⟨by simp [World.cell?, h.box], by simp [World.cell?, h.box], lt_of_get h.box⟩
theorem Gr.new (N : Int) (h : HasArcs wx (.slice ao n cap) xs) : Gr (wx.alloc (.cells #[.int .i64 N, .slice ao n cap] 24)) wx.heap.size N ao n cap xs ∧ Below wx.heap.size wx (wx.alloc (.cells #[.int .i64 N, .slice ao n cap] 24)) := by
  have hb : Below wx.heap.size wx (wx.alloc (.cells #[.int .i64 N, .slice ao n cap] 24)) := (Below.refl _ wx).alloc (Nat.le_refl _) _
  exact ⟨⟨heap_new _ _, h.keep hb⟩, hb⟩
theorem Told.keep {e : Int × List (Int × Int)} {v : Value} (h : IsTold wx e v) (hb : Below wx.heap.size wx w') : IsTold w' e v := IsTold.keep h (Below.keeps hb)
end
theorem lit2 (w : World) (a b : Int × Int × Int) : HasArcs (w.alloc (.cells #[.int .i64 a.1, .int .i64 a.2.1, .int .i64 a.2.2, .int .i64 b.1, .int .i64 b.2.1, .int .i64 b.2.2] 51)) (.slice (some ⟨w.heap.size, 0, none⟩) 2 2) [a, b] ∧ Below w.heap.size w (w.alloc (.cells #[.int .i64 a.1, .int .i64 a.2.1, .int .i64 a.2.2, .int .i64 b.1, .int .i64 b.2.1, .int .i64 b.2.2] 51)) := by
  refine ⟨⟨some ⟨w.heap.size, 0, none⟩, 2, rfl, fun j c hj => ?_⟩, (Below.refl _ w).alloc (Nat.le_refl _) _⟩
  have hk := heap_new w (.cells #[.int .i64 a.1, .int .i64 a.2.1, .int .i64 a.2.2, .int .i64 b.1, .int .i64 b.2.1, .int .i64 b.2.2] 51)
  refine ⟨w.heap.size, 0, rfl, by simp, ?_⟩
  rcases j with _ | _ | j
  · simp at hj; subst hj; exact ⟨by simp only [World.cell?, hk]; rfl, by simp only [World.cell?, hk]; rfl, by simp only [World.cell?, hk]; rfl⟩
  · simp at hj; subst hj; exact ⟨by simp only [World.cell?, hk]; rfl, by simp only [World.cell?, hk]; rfl, by simp only [World.cell?, hk]; rfl⟩
  · simp at hj
theorem lit1 (w : World) (a : Int × Int × Int) : HasArcs (w.alloc (.cells #[.int .i64 a.1, .int .i64 a.2.1, .int .i64 a.2.2] 51)) (.slice (some ⟨w.heap.size, 0, none⟩) 1 1) [a] ∧ Below w.heap.size w (w.alloc (.cells #[.int .i64 a.1, .int .i64 a.2.1, .int .i64 a.2.2] 51)) := by
  refine ⟨⟨some ⟨w.heap.size, 0, none⟩, 1, rfl, fun j c hj => ?_⟩, (Below.refl _ w).alloc (Nat.le_refl _) _⟩
  have hk := heap_new w (.cells #[.int .i64 a.1, .int .i64 a.2.1, .int .i64 a.2.2] 51)
  refine ⟨w.heap.size, 0, rfl, by simp, ?_⟩
  rcases j with _ | j
  · simp at hj; subst hj; exact ⟨by simp only [World.cell?, hk]; rfl, by simp only [World.cell?, hk]; rfl, by simp only [World.cell?, hk]; rfl⟩
  · simp at hj
theorem ints2 (w : World) (x y : Int) : HasInts (w.alloc (.cells #[.int .i64 x, .int .i64 y] 3)) (.slice (some ⟨w.heap.size, 0, none⟩) 2 2) [x, y] ∧ Below w.heap.size w (w.alloc (.cells #[.int .i64 x, .int .i64 y] 3)) := by
  refine ⟨⟨some ⟨w.heap.size, 0, none⟩, 2, rfl, fun j c hj => ?_⟩, (Below.refl _ w).alloc (Nat.le_refl _) _⟩
  have hk := heap_new w (.cells #[.int .i64 x, .int .i64 y] 3)
  refine ⟨w.heap.size, 0, rfl, by simp, ?_⟩
  rcases j with _ | _ | j
  · simp at hj; subst hj; simp only [World.cell?, hk]; rfl
  · simp at hj; subst hj; simp only [World.cell?, hk]; rfl
  · simp at hj

section
variable {N : Int} {ao : Option Addr} {n cap : Nat} {xs : List (Int × Int × Int)} {w : World}
theorem of_good (hl : HasArcs w (.slice ao n cap) xs) (hm : xs.length ≤ maxLen) (hg : graphErr N xs = (0, [])) : Calls Tryd.prog 9 #[.agg #[.int .i64 N, .slice ao n cap]] w fun e w' => ∃ lo k lc, e = .returned (.tuple #[.agg #[.int .i64 N, .slice lo k lc], .nilIface]) ∧ HasArcs w' (.slice lo k lc) (normA xs) ∧ Below w.heap.size w w' := by
  have hn := arcs_len hl
  subst hn
  refine (of_all N ao cap xs w hl hm).mono ?_
  rintro e w' ⟨M, lo, k, lc, v, ys, rfl, hA, _, hT, h | h, hB⟩
  · obtain ⟨_, rfl, rfl⟩ := h
    rw [hg] at hT
    rw [told_ok hT]
    exact ⟨lo, k, lc, rfl, hA, hB⟩
  · exact absurd hg h.1
theorem of_err (hl : HasArcs w (.slice ao n cap) xs) (hm : xs.length ≤ maxLen) {E : Int × List (Int × Int)} (hE : graphErr N xs = E) : Calls Tryd.prog 9 #[.agg #[.int .i64 N, .slice ao n cap]] w fun e w' => ∃ M lo k lc v, e = .returned (.tuple #[.agg #[.int .i64 M, .slice lo k lc], v]) ∧ IsTold w' E v ∧ Below w.heap.size w w' := by
  have hn := arcs_len hl
  subst hn
  refine (of_all N ao cap xs w hl hm).mono ?_
  rintro e w' ⟨M, lo, k, lc, v, ys, rfl, hA, _, hT, _, hB⟩
  rw [hE] at hT
  exact ⟨M, lo, k, lc, v, rfl, hT, hB⟩
theorem rev_good (hl : HasArcs w (.slice ao n cap) xs) (hm : xs.length ≤ maxLen) (hg : graphErr N xs = (0, [])) : Calls Tryd.prog 15 #[.agg #[.int .i64 N, .slice ao n cap]] w fun e w' => ∃ lo k lc, e = .returned (.tuple #[.agg #[.int .i64 N, .slice lo k lc], .nilIface]) ∧ HasArcs w' (.slice lo k lc) (xs.map turn) ∧ Below w.heap.size w w' := by
  have hn := arcs_len hl
  subst hn
  refine (reverse_calls N ao cap xs w hl hm).mono ?_
  rintro e w' ⟨M, lo, k, lc, v, ys, rfl, hA, _, hT, h | h, hB⟩
  · obtain ⟨_, rfl, rfl⟩ := h
    rw [hg] at hT
    rw [told_ok hT]
    exact ⟨lo, k, lc, rfl, hA, hB⟩
  · exact absurd hg h.1
theorem is_not (hl : HasArcs w (.slice ao n cap) xs) (hm : xs.length ≤ maxLen) (hg : graphErr N xs = (0, [])) (hx : normA xs ≠ xs) : Calls Tryd.prog 13 #[.agg #[.int .i64 N, .slice ao n cap]] w fun e w' => e = .returned (.tuple #[.bool false, .nilIface]) ∧ Below w.heap.size w w' := by
  have hn := arcs_len hl
  subst hn
  refine (is_all N ao cap xs w hl hm).mono ?_
  rintro e w' ⟨v, rfl, hT, hB⟩
  rw [hg] at hT
  rw [told_ok hT, decide_eq_false (fun h => hx h.2)]
  exact ⟨rfl, hB⟩
theorem deg_good (hl : HasArcs w (.slice ao n cap) xs) (hm : xs.length ≤ maxLen) (hg : graphErr N xs = (0, [])) : Calls Tryd.prog 17 #[.agg #[.int .i64 N, .slice ao n cap]] w fun e w' => ∃ o1 l1 c1 o2 l2 c2, e = .returned (.tuple #[.slice o1 l1 c1, .slice o2 l2 c2, .nilIface]) ∧ HasInts w' (.slice o1 l1 c1) (outL N.toNat xs) ∧ HasInts w' (.slice o2 l2 c2) (inL N.toNat xs) ∧ Below w.heap.size w w' := by
  have hn := arcs_len hl
  subst hn
  refine (degrees_calls N ao cap xs w hl hm).mono ?_
  rintro e w' ⟨v, fv, tv, fl, tl, rfl, h1, h2, _, hT, h | h, hB⟩
  · obtain ⟨_, rfl, rfl⟩ := h
    rw [hg] at hT
    rw [told_ok hT]
    obtain ⟨o1, c1, e1, _⟩ := id h1
    obtain ⟨o2, c2, e2, _⟩ := id h2
    rw [e1] at h1 ⊢
    rw [e2] at h2 ⊢
    exact ⟨_, _, _, _, _, _, rfl, h1, h2, hB⟩
  · exact absurd hg h.1
theorem merge_any {M : Int} {bo : Option Addr} {k bc : Nat} {ys : List (Int × Int × Int)} (hx : HasArcs w (.slice ao n cap) xs) (hy : HasArcs w (.slice bo k bc) ys) (hxn : ao = none → cap = 0) (hyn : bo = none → bc = 0) (hmx : xs.length ≤ maxLen) (hmy : ys.length ≤ maxLen) {E : Int × List (Int × Int)} (hE : bothErr N M xs ys = E) (hS : E = (0, []) → xs.length + ys.length ≤ 262144) :
    Calls Tryd.prog 20 #[.agg #[.int .i64 N, .slice ao n cap], .agg #[.int .i64 M, .slice bo k bc]] w fun e w' => ∃ K lo q lc v zs, e = .returned (.tuple #[.agg #[.int .i64 K, .slice lo q lc], v]) ∧ HasArcs w' (.slice lo q lc) zs ∧ IsTold w' E v ∧ ((E = (0, []) ∧ K = N ∧ zs = xs ++ ys) ∨ (E ≠ (0, []) ∧ K = 0 ∧ zs = [])) ∧ Below w.heap.size w w' := by
  have hn := arcs_len hx
  subst hn
  have hk := arcs_len hy
  subst hk
  refine (merge_of E N M ao bo cap bc xs ys w hx hy hxn hyn (fun wy h1 h2 => by have h3 := both_calls N M ao bo cap bc xs ys wy h1 h2 hmx hmy; rw [hE] at h3; exact h3) hS).mono ?_
  rintro e w' ⟨K, lo, q, lc, v, zs, rfl, h1, _, h2, h3, h4⟩
  exact ⟨K, lo, q, lc, v, zs, rfl, h1, h2, h3, h4⟩
/-- an error at an arc, seen. -/
theorem seen_at {E : Int × List (Int × Int)} {v : Value} (hE : E = (7, [(4, 0)])) (hT : IsTold w E v) (hg : HasType w) {g : Nat} (hb : w.heap[g]? = some (.cells #[.int .i64 4, .int .i64 0] 68)) : Calls Tryd.prog 12 #[v, .agg #[.int .i64 7, .slice (some ⟨g, 0, none⟩) 1 1]] w fun r w' => r = .returned (.bool true) ∧ Below w.heap.size w w' := by
  subst hE
  refine seen_told (7, [(4, 0)]) v (some ⟨g, 0, none⟩) 1 w hT ⟨some ⟨g, 0, none⟩, 1, rfl, fun j p hj => ?_⟩ (by unfold maxLen; simp) hg
  rcases j with _ | j
  · simp at hj
    subst hj
    exact ⟨g, 0, rfl, lt_of_get hb, by simp [World.cell?, hb], by simp [World.cell?, hb]⟩
  · simp at hj
/-- an error that is a number, seen. -/
theorem seen_num {c : Int} {v : Value} (hT : IsTold w (c, []) v) (hg : HasType w) : Calls Tryd.prog 12 #[v, .agg #[.int .i64 c, .slice none 0 0]] w fun r w' => r = .returned (.bool true) ∧ Below w.heap.size w w' :=
  seen_told (c, []) v none 0 w hT ⟨none, 0, rfl, fun j p hj => by simp at hj⟩ (Nat.zero_le _) hg
end
end Go.Proofs.YtldfhkdccbgdnaaDoor
