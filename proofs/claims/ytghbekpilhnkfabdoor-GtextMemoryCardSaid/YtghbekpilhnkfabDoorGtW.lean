/- the reference's arc of a row, walked. (genac.py) -/
import Derived.Test.YtghbekpilhnkfabDoorGtV
namespace Go.Proofs.YtghbekpilhnkfabDoor.Gt
open Go Go.Lib Go.RowKit Go.Extern Hi

attribute [local go_sem] Oper.semAt_some

/-- the error of an arc's row, and the arc. -/
def aE (ws : List By) (N ln : Nat) : Int × List (Int × Int) := if rowE ws awd (bA N) = 0 then (0, []) else (rowE ws awd (bA N), [(1, (ln : Int))])
def aV (ws : List By) (N : Nat) : Arc3 := if rowE ws awd (bA N) = 0 then ((val (ws.getD 1 []) : Int), (val (ws.getD 2 []) : Int), (val (ws.getD 3 []) : Int)) else (0, 0, 0)
def AcA (ws : List By) (N ln : Nat) (w : World) (e : Ending) (w' : World) : Prop := ∃ u, e = .returned (.tuple #[.agg #[.int .i64 (aV ws N).1, .int .i64 (aV ws N).2.1, .int .i64 (aV ws N).2.2], u]) ∧ IsRef w' (aE ws N ln) u ∧ Below w.heap.size w w'
theorem aV_bad {ws : List By} {N : Nat} {c : Int} (h : rowE ws awd (bA N) = c) (hc : c ≠ 0) : aV ws N = (0, 0, 0) := by unfold aV; rw [if_neg (by rw [h]; exact hc)]
theorem aE_bad {ws : List By} {N ln : Nat} {c : Int} (h : rowE ws awd (bA N) = c) (hc : c ≠ 0) : aE ws N ln = (c, [(1, (ln : Int))]) := by unfold aE; rw [if_neg (by rw [h]; exact hc), h]
theorem row_fm (ws : List By) (word : By) (B : List (Nat × Int)) : rowE ws word B = if fmE ws word (1 + B.length) = 0 then numsE (ws.drop 1) B else fmE ws word (1 + B.length) := by
  unfold rowE fmE
  split
  · rfl
  · split
    · rfl
    · split
      · rfl
      · rfl
theorem fm_len {ws : List By} {word : By} {k : Nat} (h : fmE ws word k = 0) : ws.length = k := by
  unfold fmE at h
  split at h
  · cases h
  · split at h
    · cases h
    · split at h
      · cases h
      · omega
theorem arc_row {ws : List By} {v1 v2 v3 : By} {N : Nat} (h : fmE ws awd 4 = 0) (h1 : ws[1]? = some v1) (h2 : ws[2]? = some v2) (h3 : ws[3]? = some v3) : rowE ws awd (bA N) = if bnE v1 N 7 = 0 then (if bnE v2 N 7 = 0 then (if bnE v3 2147483648 8 = 0 then 0 else bnE v3 2147483648 8) else bnE v2 N 7) else bnE v1 N 7 := by
  have hl := fm_len h
  rw [row_fm, show 1 + (bA N).length = 4 from rfl, if_pos h]
  match ws, hl, h1, h2, h3 with
  | [a, b, c, d], _, h1, h2, h3 =>
    simp at h1 h2 h3
    subst h1 h2 h3
    rfl
theorem foE_split {w' : World} {ws : List By} {word : By} {k ln : Nat} {v : Value} (h : IsRef w' (foE ws word k ln) v) : (fmE ws word k = 0 ∧ ∃ lo l2, v = .agg #[.int .i64 0, .slice lo 0 l2]) ∨ ∃ c lo l2, fmE ws word k = c ∧ c ≠ 0 ∧ v = .agg #[.int .i64 c, .slice lo 1 l2] ∧ RefPl w' (.slice lo 1 l2) [(1, (ln : Int))] := by
  obtain ⟨lo, l2, e, hp⟩ := h
  by_cases q : fmE ws word k = 0
  · have e2 : foE ws word k ln = (0, []) := by unfold foE; rw [if_pos q]
    rw [e2] at e
    exact Or.inl ⟨q, lo, l2, e⟩
  · have e2 : foE ws word k ln = (fmE ws word k, [(1, (ln : Int))]) := by unfold foE; rw [if_neg q]
    rw [e2] at e hp
    exact Or.inr ⟨_, lo, l2, rfl, q, e, hp⟩
theorem nuE_split {w' : World} {v : By} {most ln : Nat} {er : Int} {u : Value} (h : IsRef w' (nuE v most er ln) u) : (bnE v (most + 1) er = 0 ∧ ∃ lo l2, u = .agg #[.int .i64 0, .slice lo 0 l2]) ∨ ∃ c lo l2, bnE v (most + 1) er = c ∧ c ≠ 0 ∧ u = .agg #[.int .i64 c, .slice lo 1 l2] ∧ RefPl w' (.slice lo 1 l2) [(1, (ln : Int))] := by
  obtain ⟨lo, l2, e, hp⟩ := h
  by_cases q : bnE v (most + 1) er = 0
  · have e2 : nuE v most er ln = (0, []) := by unfold nuE; rw [if_pos q]
    rw [e2] at e
    exact Or.inl ⟨q, lo, l2, e⟩
  · have e2 : nuE v most er ln = (bnE v (most + 1) er, [(1, (ln : Int))]) := by unfold nuE; rw [if_neg q]
    rw [e2] at e hp
    exact Or.inr ⟨_, lo, l2, rfl, q, e, hp⟩
theorem arc_res {W : World} {z1 z2 : Nat} {a b c x0 x1 : Value} {tmps : Array Value} (h1 : W.heap[z1]? = some (.cells #[a, b, c] 42)) (h2 : W.heap[z2]? = some (.cells #[x0, x1] 35)) (t1 : tmps[4]?.getD undef = .pointer (some ⟨z1, 0, none⟩)) (t2 : tmps[5]?.getD undef = .pointer (some ⟨z2, 0, none⟩)) :
    (results Tryd.f42 tmps).run Tryd.prog W = .ok (.tuple #[.agg #[a, b, c], .agg #[x0, x1]]) W := by
  have c0 : W.cell? ⟨z1, 0, none⟩ = some a := by simp [World.cell?, h1]
  have c1 : W.cell? ⟨z1, 1, none⟩ = some b := by simp [World.cell?, h1]
  have c2 : W.cell? ⟨z1, 2, none⟩ = some c := by simp [World.cell?, h1]
  have d0 : W.cell? ⟨z2, 0, none⟩ = some x0 := by simp [World.cell?, h2]
  have d1 : W.cell? ⟨z2, 1, none⟩ = some x1 := by simp [World.cell?, h2]
  simp [results, Tryd.results42, go_sem, t1, t2, c0, c1, c2, d0, d1]
/-- the state of arc's walk. -/
structure ArS (w : World) (rb z1 z2 ln A lc : Nat) (X : List ByteArray) (W : World) : Prop where
  bel : Below w.heap.size w W
  row : W.heap[rb]? = some (.cells #[.int .i64 (ln : Int), .slice (some ⟨A, 0, none⟩) X.length lc] 103)
  r1 : W.heap[z1]? = some (.cells #[.int .i64 0, .int .i64 0, .int .i64 0] 42)
  r2 : W.heap[z2]? = some (.cells #[.int .i64 0, .slice none 0 0] 35)
  st : StR W (ln, A, lc, X)
  lt : w.heap.size ≤ z1 ∧ w.heap.size ≤ z2
theorem ac_ne : 42 ≠ 35 ∧ 35 ≠ 42 ∧ 77 ≠ 42 ∧ 77 ≠ 35 ∧ 103 ≠ 35 ∧ 9 ≠ 35 ∧ 103 ≠ 42 ∧ 9 ≠ 42 := by decide
variable {w W Y : World} {rb z1 z2 ln A lc : Nat} {X : List ByteArray}
theorem ArS.up (h : ArS w rb z1 z2 ln A lc X W) (hb : Below W.heap.size W Y) : ArS w rb z1 z2 ln A lc X Y := by
  have kp : ∀ {j : Nat} {c : Array Value} {T : TypeId}, W.heap[j]? = some (.cells c T) → Y.heap[j]? = some (.cells c T) := fun hj => (hb.block _ (Array.getElem?_eq_some_iff.1 hj).1).trans hj
  exact ⟨h.bel.trans (hb.mono h.bel.size), kp h.row, kp h.r1, kp h.r2, ⟨h.st.1.keep hb, h.st.2⟩, h.lt⟩
theorem ArS.cl (h : ArS w rb z1 z2 ln A lc X Y) : Y.cell? ⟨z1, 0, none⟩ = some (.int .i64 0) ∧ Y.cell? ⟨z1, 1, none⟩ = some (.int .i64 0) ∧ Y.cell? ⟨z1, 2, none⟩ = some (.int .i64 0) ∧ Y.cell? ⟨z2, 0, none⟩ = some (.int .i64 0) ∧ Y.cell? ⟨z2, 1, none⟩ = some (.slice none 0 0) ∧ Y.frozen? ⟨z1, 0, none⟩ = false ∧ Y.frozen? ⟨z1, 1, none⟩ = false ∧ Y.frozen? ⟨z1, 2, none⟩ = false ∧ Y.frozen? ⟨z2, 0, none⟩ = false ∧ Y.frozen? ⟨z2, 1, none⟩ = false := by
  have h1 := h.r1
  have h2 := h.r2
  exact ⟨by simp [World.cell?, h1], by simp [World.cell?, h1], by simp [World.cell?, h1], by simp [World.cell?, h2], by simp [World.cell?, h2], by simp [World.frozen?, h1], by simp [World.frozen?, h1], by simp [World.frozen?, h1], by simp [World.frozen?, h2], by simp [World.frozen?, h2]⟩
theorem ArS.rcl (h : ArS w rb z1 z2 ln A lc X Y) : Y.cell? ⟨rb, 0, none⟩ = some (.int .i64 (ln : Int)) ∧ Y.cell? ⟨rb, 1, none⟩ = some (.slice (some ⟨A, 0, none⟩) X.length lc) := by
  have h1 := h.row
  exact ⟨by simp [World.cell?, h1], by simp [World.cell?, h1]⟩
theorem ArS.wd (h : ArS w rb z1 z2 ln A lc X Y) {i : Nat} {x : ByteArray} (hx : X[i]? = some x) : Y.cell? ⟨A, i, none⟩ = some (.string x) ∧ A < Y.heap.size := by
  obtain ⟨⟨cur, s1, s2⟩, _⟩ := h.st
  have := s2 i x hx
  exact ⟨by simp [World.cell?, s1, this], (Array.getElem?_eq_some_iff.1 s1).1⟩
theorem ArS.ne (h : ArS w rb z1 z2 ln A lc X Y) : z1 ≠ z2 ∧ z2 ≠ z1 := ⟨at_ne h.r1 h.r2 ac_ne.1, at_ne h.r2 h.r1 ac_ne.2.1⟩
theorem set_threeG {W : World} {b : Nat} {p q r : Value} {T : TypeId} (h : W.heap[b]? = some (.cells #[p, q, r] T)) (x y z : Value) : (((W.setCell ⟨b, 0, none⟩ x).setCell ⟨b, 1, none⟩ y).setCell ⟨b, 2, none⟩ z).heap[b]? = some (.cells #[x, y, z] T) := by
  simp only [World.setCell, Array.getElem?_modify]
  simp [h]
theorem set_far3 {w W : World} {z B : Nat} (h : Below B w W) (hz : B ≤ z) (u v x : Value) : Below B w (((W.setCell ⟨z, 0, none⟩ u).setCell ⟨z, 1, none⟩ v).setCell ⟨z, 2, none⟩ x) ∧ ∀ j, j ≠ z → (((W.setCell ⟨z, 0, none⟩ u).setCell ⟨z, 1, none⟩ v).setCell ⟨z, 2, none⟩ x).heap[j]? = W.heap[j]? := by
  have far : ∀ j, j ≠ z → (((W.setCell ⟨z, 0, none⟩ u).setCell ⟨z, 1, none⟩ v).setCell ⟨z, 2, none⟩ x).heap[j]? = W.heap[j]? := fun j hj => ((Below.heap_setCell _ _ _ _ (by exact hj)).trans (Below.heap_setCell _ _ _ _ (by exact hj))).trans (Below.heap_setCell _ _ _ _ (by exact hj))
  have sz : (((W.setCell ⟨z, 0, none⟩ u).setCell ⟨z, 1, none⟩ v).setCell ⟨z, 2, none⟩ x).heap.size = W.heap.size := by simp [World.setCell]
  exact ⟨⟨h.os, h.tape, h.output, by rw [sz]; exact h.size, fun j hj => (far j (by omega)).trans (h.block j hj)⟩, far⟩
theorem ar_fin1 (h : ArS w rb z1 z2 ln A lc X Y) (a b c u v : Value) {ps : List (Int × Int)} (hp : RefPl Y v ps) :
    (((((Y.setCell ⟨z1, 0, none⟩ a).setCell ⟨z1, 1, none⟩ b).setCell ⟨z1, 2, none⟩ c).setCell ⟨z2, 0, none⟩ u).setCell ⟨z2, 1, none⟩ v).heap[z1]? = some (.cells #[a, b, c] 42) ∧
    (((((Y.setCell ⟨z1, 0, none⟩ a).setCell ⟨z1, 1, none⟩ b).setCell ⟨z1, 2, none⟩ c).setCell ⟨z2, 0, none⟩ u).setCell ⟨z2, 1, none⟩ v).heap[z2]? = some (.cells #[u, v] 35) ∧
    Below w.heap.size w (((((Y.setCell ⟨z1, 0, none⟩ a).setCell ⟨z1, 1, none⟩ b).setCell ⟨z1, 2, none⟩ c).setCell ⟨z2, 0, none⟩ u).setCell ⟨z2, 1, none⟩ v) ∧
    RefPl (((((Y.setCell ⟨z1, 0, none⟩ a).setCell ⟨z1, 1, none⟩ b).setCell ⟨z1, 2, none⟩ c).setCell ⟨z2, 0, none⟩ u).setCell ⟨z2, 1, none⟩ v) v ps := by
  obtain ⟨g1, g2⟩ := set_far3 h.bel h.lt.1 a b c
  obtain ⟨g3, g4⟩ := set_far g1 h.lt.2 u v
  exact ⟨(g4 _ h.ne.1).trans (set_threeG h.r1 a b c), set_twoG ((g2 _ h.ne.2).trans h.r2) u v, g3, hp.far fun g c2 hg => (g4 _ (at_ne hg h.r2 ac_ne.2.2.2.1)).trans ((g2 _ (at_ne hg h.r1 ac_ne.2.2.1)).trans hg)⟩
theorem ar_fin2 (h : ArS w rb z1 z2 ln A lc X Y) (a b c u v : Value) {ps : List (Int × Int)} (hp : RefPl Y v ps) :
    (((((Y.setCell ⟨z2, 0, none⟩ u).setCell ⟨z2, 1, none⟩ v).setCell ⟨z1, 0, none⟩ a).setCell ⟨z1, 1, none⟩ b).setCell ⟨z1, 2, none⟩ c).heap[z1]? = some (.cells #[a, b, c] 42) ∧
    (((((Y.setCell ⟨z2, 0, none⟩ u).setCell ⟨z2, 1, none⟩ v).setCell ⟨z1, 0, none⟩ a).setCell ⟨z1, 1, none⟩ b).setCell ⟨z1, 2, none⟩ c).heap[z2]? = some (.cells #[u, v] 35) ∧
    Below w.heap.size w (((((Y.setCell ⟨z2, 0, none⟩ u).setCell ⟨z2, 1, none⟩ v).setCell ⟨z1, 0, none⟩ a).setCell ⟨z1, 1, none⟩ b).setCell ⟨z1, 2, none⟩ c) ∧
    RefPl (((((Y.setCell ⟨z2, 0, none⟩ u).setCell ⟨z2, 1, none⟩ v).setCell ⟨z1, 0, none⟩ a).setCell ⟨z1, 1, none⟩ b).setCell ⟨z1, 2, none⟩ c) v ps := by
  obtain ⟨g3, g4⟩ := set_far h.bel h.lt.2 u v
  obtain ⟨g1, g2⟩ := set_far3 g3 h.lt.1 a b c
  exact ⟨set_threeG ((g4 _ h.ne.1).trans h.r1) a b c, (g2 _ h.ne.2).trans (set_twoG h.r2 u v), g1, hp.far fun g c2 hg => (g2 _ (at_ne hg h.r1 ac_ne.2.2.1)).trans ((g4 _ (at_ne hg h.r2 ac_ne.2.2.2.1)).trans hg)⟩
theorem drew4 {w W : World} {i j n : Nat} {p q : Obj} {v : Value} {ps : List (Int × Int)} (h : W.heap[i]? = some p ∧ W.heap[j]? = some q ∧ Below n w W ∧ RefPl W v ps) : W.drew.heap[i]? = some p ∧ W.drew.heap[j]? = some q ∧ Below n w W.drew ∧ RefPl W.drew v ps := ⟨h.1, h.2.1, h.2.2.1.drew, h.2.2.2.far fun _ _ hg => hg⟩
theorem ar_fin1d (h : ArS w rb z1 z2 ln A lc X Y) (a b c u v : Value) {ps : List (Int × Int)} (hp : RefPl Y v ps) : (((((Y.setCell ⟨z1, 0, none⟩ a).setCell ⟨z1, 1, none⟩ b).setCell ⟨z1, 2, none⟩ c).setCell ⟨z2, 0, none⟩ u).setCell ⟨z2, 1, none⟩ v).drew.heap[z1]? = some (.cells #[a, b, c] 42) ∧ (((((Y.setCell ⟨z1, 0, none⟩ a).setCell ⟨z1, 1, none⟩ b).setCell ⟨z1, 2, none⟩ c).setCell ⟨z2, 0, none⟩ u).setCell ⟨z2, 1, none⟩ v).drew.heap[z2]? = some (.cells #[u, v] 35) ∧ Below w.heap.size w ((((((Y.setCell ⟨z1, 0, none⟩ a).setCell ⟨z1, 1, none⟩ b).setCell ⟨z1, 2, none⟩ c).setCell ⟨z2, 0, none⟩ u).setCell ⟨z2, 1, none⟩ v).drew) ∧ RefPl ((((((Y.setCell ⟨z1, 0, none⟩ a).setCell ⟨z1, 1, none⟩ b).setCell ⟨z1, 2, none⟩ c).setCell ⟨z2, 0, none⟩ u).setCell ⟨z2, 1, none⟩ v).drew) v ps :=
  drew4 (ar_fin1 h a b c u v hp)
theorem ar_fin2d (h : ArS w rb z1 z2 ln A lc X Y) (a b c u v : Value) {ps : List (Int × Int)} (hp : RefPl Y v ps) : (((((Y.setCell ⟨z2, 0, none⟩ u).setCell ⟨z2, 1, none⟩ v).setCell ⟨z1, 0, none⟩ a).setCell ⟨z1, 1, none⟩ b).setCell ⟨z1, 2, none⟩ c).drew.heap[z1]? = some (.cells #[a, b, c] 42) ∧ (((((Y.setCell ⟨z2, 0, none⟩ u).setCell ⟨z2, 1, none⟩ v).setCell ⟨z1, 0, none⟩ a).setCell ⟨z1, 1, none⟩ b).setCell ⟨z1, 2, none⟩ c).drew.heap[z2]? = some (.cells #[u, v] 35) ∧ Below w.heap.size w ((((((Y.setCell ⟨z2, 0, none⟩ u).setCell ⟨z2, 1, none⟩ v).setCell ⟨z1, 0, none⟩ a).setCell ⟨z1, 1, none⟩ b).setCell ⟨z1, 2, none⟩ c).drew) ∧ RefPl ((((((Y.setCell ⟨z2, 0, none⟩ u).setCell ⟨z2, 1, none⟩ v).setCell ⟨z1, 0, none⟩ a).setCell ⟨z1, 1, none⟩ b).setCell ⟨z1, 2, none⟩ c).drew) v ps :=
  drew4 (ar_fin2 h a b c u v hp)
/-- an error's box of its own is set. -/
theorem ArS.setE (h : ArS w rb z1 z2 ln A lc X Y) {eb : Nat} {x y : Value} (he : Y.heap[eb]? = some (.cells #[x, y] 35)) (hz : eb ≠ z2) (hw : w.heap.size ≤ eb) (u v : Value) : ArS w rb z1 z2 ln A lc X ((Y.setCell ⟨eb, 0, none⟩ u).setCell ⟨eb, 1, none⟩ v) ∧ ((Y.setCell ⟨eb, 0, none⟩ u).setCell ⟨eb, 1, none⟩ v).heap[eb]? = some (.cells #[u, v] 35) ∧ (∀ sl ps, RefPl Y sl ps → RefPl ((Y.setCell ⟨eb, 0, none⟩ u).setCell ⟨eb, 1, none⟩ v) sl ps) := by
  obtain ⟨g3, g4⟩ := set_far h.bel hw u v
  refine ⟨⟨g3, (g4 _ (at_ne h.row he ac_ne.2.2.2.2.1)).trans h.row, (g4 _ (at_ne h.r1 he ac_ne.1)).trans h.r1, (g4 _ (Ne.symm hz)).trans h.r2, ?_, h.lt⟩, set_twoG he u v, fun sl ps hp => hp.far fun g c hg => (g4 _ (at_ne hg he ac_ne.2.2.2.1)).trans hg⟩
  obtain ⟨⟨cur, s1, s2⟩, s3⟩ := h.st
  exact ⟨⟨cur, (g4 _ (at_ne s1 he ac_ne.2.2.2.2.2.1)).trans s1, s2⟩, s3⟩
theorem refpl_nil (w : World) (lo : Option Addr) (l2 : Nat) : RefPl w (.slice lo 0 l2) [] := ⟨⟨lo, l2, rfl, fun j p hj => by simp at hj⟩, Or.inl rfl⟩
theorem bs_awd : bs ⟨#[97, 114, 99]⟩ = awd := rfl

set_option maxRecDepth 100000 in
set_option maxHeartbeats 8000000 in
theorem arc_calls (w : World) (ln A lc : Nat) (X : List ByteArray) (N : Nat) (h : StR w (ln, A, lc, X)) (hf : FewR (ln, A, lc, X)) (hN : N ≤ 65536) :
    Calls Tryd.prog 42 #[.agg #[.int .i64 (ln : Int), .slice (some ⟨A, 0, none⟩) X.length lc], .int .i64 (N : Int)] w (AcA (X.map bs) N ln w) := by
  obtain ⟨rb, hrb⟩ : ∃ rb, w.heap.size = rb := ⟨_, rfl⟩
  obtain ⟨z1, hz1⟩ : ∃ z1, rb + 1 = z1 := ⟨_, rfl⟩
  obtain ⟨z2, hz2⟩ : ∃ z2, z1 + 1 = z2 := ⟨_, rfl⟩
  obtain ⟨W1, hW1⟩ : ∃ W1, ((w.alloc (.cells #[.int .i64 (ln : Int), .slice (some ⟨A, 0, none⟩) X.length lc] 103)).alloc (.cells #[.int .i64 0, .int .i64 0, .int .i64 0] 42)).alloc (.cells #[.int .i64 0, .slice none 0 0] 35) = W1 := ⟨_, rfl⟩
  have HW1 : Hid (((w.alloc (.cells #[.int .i64 (ln : Int), .slice (some ⟨A, 0, none⟩) X.length lc] 103)).alloc (.cells #[.int .i64 0, .int .i64 0, .int .i64 0] 42)).alloc (.cells #[.int .i64 0, .slice none 0 0] 35) = W1) := hW1
  have hb1 : Below w.heap.size w W1 := by rw [← hW1]; exact (((Below.refl _ _).alloc (Nat.le_refl _) _).alloc (by simp) _).alloc (by simp; omega) _
  have HA1 : Hid (ArS w rb z1 z2 ln A lc X W1) := by
    refine ⟨hb1, ?_, ?_, ?_, ⟨h.1.keep hb1, h.2⟩, by omega, by omega⟩
    · rw [← hW1, ← hrb]; exact (Below.heap_alloc _ _ _ (by simp; omega)).trans ((Below.heap_alloc _ _ _ (by simp)).trans (heap_newG _ _))
    · have g := heap_newG (w.alloc (.cells #[.int .i64 (ln : Int), .slice (some ⟨A, 0, none⟩) X.length lc] 103)) (.cells #[.int .i64 0, .int .i64 0, .int .i64 0] 42)
      rw [World.size_alloc, hrb, hz1] at g
      rw [← hW1]
      exact (Below.heap_alloc _ _ _ (by simp; omega)).trans g
    · have g := heap_newG ((w.alloc (.cells #[.int .i64 (ln : Int), .slice (some ⟨A, 0, none⟩) X.length lc] 103)).alloc (.cells #[.int .i64 0, .int .i64 0, .int .i64 0] 42)) (.cells #[.int .i64 0, .slice none 0 0] 35)
      rw [World.size_alloc, World.size_alloc, hrb, hz1, hz2, hW1] at g
      exact g
  have hX2 : X.length ≤ 200 := hf.2.1
  obtain ⟨d0, d1⟩ := HA1.out.rcl
  have HFM := form_calls W1 ln A lc X ⟨#[97, 114, 99]⟩ 4 HA1.out.st hf
  rw [bs_awd] at HFM
  have HF : Hid (Calls Tryd.prog 40 #[.agg #[.int .i64 (ln : Int), .slice (some ⟨A, 0, none⟩) X.length lc], .string ⟨#[97, 114, 99]⟩, .int .i64 4] W1 (FoA (X.map bs) awd 4 ln W1)) := HFM
  have HW : Hid (FewR (ln, A, lc, X)) := hf
  clear HFM hW1 hb1 h hf
  go_enter Tryd.func42, Tryd.ntmps42
  go_upto_region 1 with fail
  rw [HW1.out]
  try rw [hrb, hz1, hz2]
  go_wp2_with fail
  refine HF.out.mono ?_
  rintro e x1 ⟨v, rfl, hv, hx1⟩
  have AX1 := HA1.out.up hx1
  have HLT : Hid (z2 < W1.heap.size) := (Array.getElem?_eq_some_iff.1 HA1.out.r2).1
  have HX1 : Hid (ArS w rb z1 z2 ln A lc X x1 ∧ z2 < x1.heap.size) := ⟨AX1, Nat.lt_of_lt_of_le HLT.out hx1.size⟩
  clear HW1 HF d0 d1 hx1 AX1 HLT
  rcases foE_split hv with ⟨hfm, lo, l2, rfl⟩ | ⟨c, lo, l2, hfm, hc, rfl, hp⟩
  · have HFM : Hid (fmE (X.map bs) awd 4 = 0) := hfm
    clear hv hfm
    obtain ⟨eb, heb⟩ : ∃ eb, x1.heap.size = eb := ⟨_, rfl⟩
    obtain ⟨W2, hW2⟩ : ∃ W2, x1.alloc (.cells #[.int .i64 0, .slice lo 0 l2] 35) = W2 := ⟨_, rfl⟩
    have HW2 : Hid (x1.alloc (.cells #[.int .i64 0, .slice lo 0 l2] 35) = W2) := hW2
    have bW2 : Below x1.heap.size x1 W2 := by rw [← hW2]; exact (Below.refl _ _).alloc (Nat.le_refl _) _
    have mW2 : W2.heap[eb]? = some (.cells #[.int .i64 0, .slice lo 0 l2] 35) := by rw [← hW2, ← heb]; exact heap_newG _ _
    have AW2 : Hid (ArS w rb z1 z2 ln A lc X W2 ∧ W2.heap[eb]? = some (.cells #[.int .i64 0, .slice lo 0 l2] 35) ∧ w.heap.size ≤ eb ∧ Below x1.heap.size x1 W2) := ⟨HX1.out.1.up bW2, mW2, by have := HX1.out.1.bel.size; omega, bW2⟩
    have e0 : W2.cell? ⟨eb, 0, none⟩ = some (.int .i64 0) := by simp [World.cell?, mW2]
    have e1 : W2.cell? ⟨eb, 1, none⟩ = some (.slice lo 0 l2) := by simp [World.cell?, mW2]
    clear hW2 bW2 mW2
    have HL2 : Hid (z2 < W2.heap.size) := Nat.lt_of_lt_of_le HX1.out.2 AW2.out.2.2.2.size
    go_upto_region 2 with fail
    rw [HW2.out]
    try rw [heb]
    go_wp2_with fail
    refine (bad_calls 0 lo 0 l2 W2).mono ?_
    rintro e9 x3 ⟨rfl, hx3⟩
    have mx3 := (hx3.block _ (Array.getElem?_eq_some_iff.1 AW2.out.2.1).1).trans AW2.out.2.1
    have Ax3 : Hid (ArS w rb z1 z2 ln A lc X x3 ∧ x3.heap[eb]? = some (.cells #[.int .i64 0, .slice lo 0 l2] 35) ∧ w.heap.size ≤ eb ∧ Below W2.heap.size W2 x3) := ⟨AW2.out.1.up hx3, mx3, AW2.out.2.2.1, hx3⟩
    clear e0 e1
    have e0 : x3.cell? ⟨eb, 0, none⟩ = some (.int .i64 0) := by simp [World.cell?, mx3]
    have e1 : x3.cell? ⟨eb, 1, none⟩ = some (.slice lo 0 l2) := by simp [World.cell?, mx3]
    clear mx3 hx3
    have HL3 : Hid (z2 < x3.heap.size) := Nat.lt_of_lt_of_le HL2.out Ax3.out.2.2.2.size
    obtain ⟨d0, d1⟩ := Ax3.out.1.rcl
    have hxl : X.length = 4 := by have := fm_len HFM.out; rwa [List.length_map] at this
    obtain ⟨u1, hu1⟩ : ∃ u1, X[1]? = some u1 := ⟨_, List.getElem?_eq_getElem (by omega)⟩
    obtain ⟨u2, hu2⟩ : ∃ u2, X[2]? = some u2 := ⟨_, List.getElem?_eq_getElem (by omega)⟩
    obtain ⟨u3, hu3⟩ : ∃ u3, X[3]? = some u3 := ⟨_, List.getElem?_eq_getElem (by omega)⟩
    have HU : Hid (X[1]? = some u1 ∧ X[2]? = some u2 ∧ X[3]? = some u3) := ⟨hu1, hu2, hu3⟩
    have HSZ : Hid (u1.size ≤ 200 ∧ u2.size ≤ 200 ∧ u3.size ≤ 200) := ⟨HW.out.2.2 u1 (List.mem_of_getElem? hu1), HW.out.2.2 u2 (List.mem_of_getElem? hu2), HW.out.2.2 u3 (List.mem_of_getElem? hu3)⟩
    have HROW : Hid (rowE (X.map bs) awd (bA N) = if bnE (bs u1) N 7 = 0 then (if bnE (bs u2) N 7 = 0 then (if bnE (bs u3) 2147483648 8 = 0 then 0 else bnE (bs u3) 2147483648 8) else bnE (bs u2) N 7) else bnE (bs u1) N 7) := arc_row HFM.out (by rw [List.getElem?_map, hu1]; rfl) (by rw [List.getElem?_map, hu2]; rfl) (by rw [List.getElem?_map, hu3]; rfl)
    have HVAL : Hid (∀ q : rowE (X.map bs) awd (bA N) = 0, aV (X.map bs) N = ((val (bs u1) : Int), (val (bs u2) : Int), (val (bs u3) : Int))) := fun q => by
      unfold aV
      rw [if_pos q]
      simp [List.getD_eq_getElem?_getD, List.getElem?_map, hu1, hu2, hu3]
    clear e0 e1 hu1 hu2 hu3
    rcases Nat.eq_zero_or_pos N with hn | hn
    · subst hn
      have HBN : Hid (bnE (bs u1) 0 7 = if isNum (bs u1) then 7 else 4) := by show _ = _; unfold bnE; rw [if_neg (Nat.not_lt_zero _)]
      have HN : Hid (Calls Tryd.prog 58 #[.string u1, .int .u64 18446744073709551615] x3 _) := docNumber_calls u1 18446744073709551615 x3 (by have := HSZ.out.1; omega) (by omega)
      obtain ⟨a0, al⟩ := Ax3.out.1.wd HU.out.1
      have j1 : (1 : Int) < (X.length : Int) := by omega
      clear hxl
      go_wp2_with fail
      refine HN.out.mono ?_
      rintro e9 x4 ⟨rfl, hx4⟩
      have AX4 := Ax3.out.1.up hx4
      have HX4 : Hid (ArS w rb z1 z2 ln A lc X x4 ∧ z2 < x4.heap.size) := ⟨AX4, Nat.lt_of_lt_of_le HL3.out hx4.size⟩
      unfold errR
      obtain ⟨c, hc⟩ : ∃ c, numE (bs u1) 18446744073709551615 = c := ⟨_, rfl⟩
      rw [hc]
      obtain ⟨V, hV⟩ : ∃ V : Int, (if c = 0 then (val (bs u1) : Int) else 0) = V := ⟨_, rfl⟩
      rw [hV]
      have HC : Hid ((c = 4 ∧ bnE (bs u1) 0 7 = 4) ∨ (c ≠ 4 ∧ bnE (bs u1) 0 7 = 7)) := by
        show _ ∨ _
        rw [HBN.out, ← hc]
        unfold numE
        by_cases q : isNum (bs u1) = true
        · rw [if_pos q, if_pos q]
          refine Or.inr ⟨?_, rfl⟩
          split <;> decide
        · rw [if_neg q, if_neg q]
          exact Or.inl ⟨rfl, rfl⟩
      clear hV hx4 AX4 HN a0 al d0 d1 hc
      obtain ⟨ec, hec⟩ : ∃ ec, x4.heap.size = ec := ⟨_, rfl⟩
      obtain ⟨W3, hW3⟩ : ∃ W3, x4.alloc (.cells #[.int .i64 c, .slice none 0 0] 35) = W3 := ⟨_, rfl⟩
      have HW3 : Hid (x4.alloc (.cells #[.int .i64 c, .slice none 0 0] 35) = W3) := hW3
      have bW3 : Below x4.heap.size x4 W3 := by rw [← hW3]; exact (Below.refl _ _).alloc (Nat.le_refl _) _
      have mW3 : W3.heap[ec]? = some (.cells #[.int .i64 c, .slice none 0 0] 35) := by rw [← hW3, ← hec]; exact heap_newG _ _
      have AW3 : Hid (ArS w rb z1 z2 ln A lc X W3 ∧ W3.heap[ec]? = some (.cells #[.int .i64 c, .slice none 0 0] 35) ∧ w.heap.size ≤ ec ∧ Below x4.heap.size x4 W3) := ⟨HX4.out.1.up bW3, mW3, by have := HX4.out.1.bel.size; omega, bW3⟩
      have e0 : W3.cell? ⟨ec, 0, none⟩ = some (.int .i64 c) := by simp [World.cell?, mW3]
      have e1 : W3.cell? ⟨ec, 1, none⟩ = some (.slice none 0 0) := by simp [World.cell?, mW3]
      clear hW3 bW3 mW3
      have HEC : Hid (ec ≠ z2) := by have := HX4.out.2; show ec ≠ z2; omega
      go_upto_region 6 with fail
      rw [HW3.out]
      try rw [hec]
      rcases HC.out with ⟨q4, qb⟩ | ⟨q4, qb⟩
      · have HR : Hid (rowE (X.map bs) awd (bA 0) = 4 ∧ (4 : Int) ≠ 0) := ⟨by rw [HROW.out, if_neg (by rw [qb]; decide)]; exact qb, by decide⟩
        subst q4
        clear qb
        obtain ⟨d0, d1⟩ := AW3.out.1.rcl
        go_wp2_with fail
        refine (refAt_calls 1 (ln : Int) 4 W3).mono ?_
        rintro e9 x6 ⟨pg, rfl, hpg, hx6⟩
        have Ax6 : Hid (ArS w rb z1 z2 ln A lc X x6 ∧ RefPl x6 (.slice (some ⟨pg, 0, none⟩) 1 1) [(1, (ln : Int))]) := ⟨AW3.out.1.up hx6, place_one hpg⟩
        clear hpg hx6 d0 d1 e0 e1
        obtain ⟨y0, y1, y2, y3, y4, g0, g1, g2, g3, g4⟩ := Ax6.out.1.cl
        obtain ⟨q1, q2⟩ := Ax6.out.1.ne
        go_wp2
        have gF := ar_fin1 Ax6.out.1 (.int .i64 0) (.int .i64 0) (.int .i64 0) (.int .i64 4) (.slice (some ⟨pg, 0, none⟩) 1 1) Ax6.out.2
        refine bodyPost_ret (arc_res (z1 := z1) (z2 := z2) (a := (.int .i64 0)) (b := (.int .i64 0)) (c := (.int .i64 0)) (x0 := (.int .i64 4)) (x1 := (.slice (some ⟨pg, 0, none⟩) 1 1)) (by with_reducible exact gF.1) (by with_reducible exact gF.2.1) rfl rfl) rfl ?_
        unfold AcA
        rw [aV_bad HR.out.1 HR.out.2, aE_bad HR.out.1 HR.out.2]
        exact ⟨_, rfl, ⟨_, _, rfl, gF.2.2.2⟩, gF.2.2.1⟩
      · have HR : Hid (rowE (X.map bs) awd (bA 0) = 7 ∧ (7 : Int) ≠ 0) := ⟨by rw [HROW.out, if_neg (by rw [qb]; decide)]; exact qb, by decide⟩
        have q5 : (c != 4) = true := by simpa using q4
        clear qb q4
        go_wp2_with fail
        refine (E_calls 7 W3).mono ?_
        rintro e9 x5 ⟨rfl, hx5⟩
        have m5 := (hx5.block _ (Array.getElem?_eq_some_iff.1 AW3.out.2.1).1).trans AW3.out.2.1
        have t0 : x5.cell? ⟨ec, 0, none⟩ = some (.int .i64 c) := by simp [World.cell?, m5]
        have t1 : x5.cell? ⟨ec, 1, none⟩ = some (.slice none 0 0) := by simp [World.cell?, m5]
        have t2 : x5.frozen? ⟨ec, 0, none⟩ = false := by simp [World.frozen?, m5]
        have t3 : x5.frozen? ⟨ec, 1, none⟩ = false := by simp [World.frozen?, m5]
        obtain ⟨W5, hW5⟩ : ∃ W5, (x5.setCell ⟨ec, 0, none⟩ (.int .i64 7)).setCell ⟨ec, 1, none⟩ (.slice none 0 0) = W5 := ⟨_, rfl⟩
        have S5 := (AW3.out.1.up hx5).setE m5 HEC.out AW3.out.2.2.1 (.int .i64 7) (.slice none 0 0)
        rw [hW5] at S5
        have AW5 : Hid (ArS w rb z1 z2 ln A lc X W5) := S5.1
        have v0 : W5.cell? ⟨ec, 0, none⟩ = some (.int .i64 7) := by have := S5.2.1; simp [World.cell?, this]
        have v1 : W5.cell? ⟨ec, 1, none⟩ = some (.slice none 0 0) := by have := S5.2.1; simp [World.cell?, this]
        obtain ⟨d0, d1⟩ := AW5.out.rcl
        clear m5 hx5 S5 e0 e1
        go_wp2_with fail
        refine (refAt_calls 1 (ln : Int) 7 W5).mono ?_
        rintro e9 x6 ⟨pg, rfl, hpg, hx6⟩
        have Ax6 : Hid (ArS w rb z1 z2 ln A lc X x6 ∧ RefPl x6 (.slice (some ⟨pg, 0, none⟩) 1 1) [(1, (ln : Int))]) := ⟨AW5.out.up hx6, place_one hpg⟩
        clear hpg hx6 d0 d1 t0 t1 t2 t3 v0 v1 hW5
        obtain ⟨y0, y1, y2, y3, y4, g0, g1, g2, g3, g4⟩ := Ax6.out.1.cl
        obtain ⟨q1, q2⟩ := Ax6.out.1.ne
        go_wp2
        have gF := ar_fin1 Ax6.out.1 (.int .i64 0) (.int .i64 0) (.int .i64 0) (.int .i64 7) (.slice (some ⟨pg, 0, none⟩) 1 1) Ax6.out.2
        refine bodyPost_ret (arc_res (z1 := z1) (z2 := z2) (a := (.int .i64 0)) (b := (.int .i64 0)) (c := (.int .i64 0)) (x0 := (.int .i64 7)) (x1 := (.slice (some ⟨pg, 0, none⟩) 1 1)) (by with_reducible exact gF.1) (by with_reducible exact gF.2.1) rfl rfl) rfl ?_
        unfold AcA
        rw [aV_bad HR.out.1 HR.out.2, aE_bad HR.out.1 HR.out.2]
        exact ⟨_, rfl, ⟨_, _, rfl, gF.2.2.2⟩, gF.2.2.1⟩
    · obtain ⟨M, rfl⟩ : ∃ M, N = M + 1 := ⟨N - 1, by omega⟩
      have hM : M < 65536 := by omega
      have i0 : ((M : Int) + 1 == 0) = false := by simp; omega
      have i1 : IntKind.i64.wrap (M : Int) = (M : Int) := by rw [IntKind.wrap_i64] <;> omega
      have i2 : wrap64 (M : Int) = (M : Int) := by unfold wrap64; omega
      have i3 : IntKind.u64.wrap (M : Int) = (M : Int) := by rw [IntKind.wrap_u64]; omega
      have HN1 : Hid (Calls Tryd.prog 41 #[.agg #[.int .i64 (ln : Int), .slice (some ⟨A, 0, none⟩) X.length lc], .int .i64 1, .int .u64 (M : Int), .int .i64 7] x3 (NuA (bs u1) M 7 ln x3)) := rnum_calls x3 ln A lc X 1 M 7 u1 Ax3.out.1.st HW.out HU.out.1 (by omega) (by decide)
      clear hxl hN hn
      go_wp2_with fail
      refine HN1.out.mono ?_
      rintro e9 x4 ⟨v, rfl, hv, hx4⟩
      have HX4 : Hid (ArS w rb z1 z2 ln A lc X x4 ∧ z2 < x4.heap.size) := ⟨Ax3.out.1.up hx4, Nat.lt_of_lt_of_le HL3.out hx4.size⟩
      have HBV : Hid (bnE (bs u1) (M + 1) 7 = 0 → bnV (bs u1) (M + 1) 7 = (val (bs u1) : Int)) := fun q => by unfold bnV; rw [if_pos q]
      obtain ⟨V1, hV1⟩ : ∃ V1, bnV (bs u1) (M + 1) 7 = V1 := ⟨_, rfl⟩
      rw [hV1] at HBV ⊢
      clear HN1 hx4 d0 d1 hV1
      rcases nuE_split hv with ⟨hb1, lp, l3, rfl⟩ | ⟨c, lp, l3, hb1, hc, rfl, hp⟩
      · have HB1 : Hid (bnE (bs u1) (M + 1) 7 = 0 ∧ V1 = (val (bs u1) : Int)) := ⟨hb1, HBV.out hb1⟩
        clear hv hb1 HBV
        obtain ⟨ec, hec⟩ : ∃ ec, x4.heap.size = ec := ⟨_, rfl⟩
        obtain ⟨W3, hW3⟩ : ∃ W3, x4.alloc (.cells #[.int .i64 0, .slice lp 0 l3] 35) = W3 := ⟨_, rfl⟩
        have HW3 : Hid (x4.alloc (.cells #[.int .i64 0, .slice lp 0 l3] 35) = W3) := hW3
        have bW3 : Below x4.heap.size x4 W3 := by rw [← hW3]; exact (Below.refl _ _).alloc (Nat.le_refl _) _
        have mW3 : W3.heap[ec]? = some (.cells #[.int .i64 0, .slice lp 0 l3] 35) := by rw [← hW3, ← hec]; exact heap_newG _ _
        have AW3 : Hid (ArS w rb z1 z2 ln A lc X W3 ∧ W3.heap[ec]? = some (.cells #[.int .i64 0, .slice lp 0 l3] 35) ∧ w.heap.size ≤ ec ∧ Below x4.heap.size x4 W3) := ⟨HX4.out.1.up bW3, mW3, by have := HX4.out.1.bel.size; omega, bW3⟩
        have e0 : W3.cell? ⟨ec, 0, none⟩ = some (.int .i64 0) := by simp [World.cell?, mW3]
        have e1 : W3.cell? ⟨ec, 1, none⟩ = some (.slice lp 0 l3) := by simp [World.cell?, mW3]
        clear hW3 bW3 mW3
        have HEC : Hid (ec ≠ z2) := by have := HX4.out.2; show ec ≠ z2; omega
        go_upto_region 10 with fail
        rw [HW3.out]
        try rw [hec]
        go_wp2_with fail
        refine (bad_calls 0 lp 0 l3 W3).mono ?_
        rintro e9 x5 ⟨rfl, hx5⟩
        have mx5 := (hx5.block _ (Array.getElem?_eq_some_iff.1 AW3.out.2.1).1).trans AW3.out.2.1
        have Ax5 : Hid (ArS w rb z1 z2 ln A lc X x5 ∧ x5.heap[ec]? = some (.cells #[.int .i64 0, .slice lp 0 l3] 35) ∧ w.heap.size ≤ ec ∧ Below W3.heap.size W3 x5) := ⟨AW3.out.1.up hx5, mx5, AW3.out.2.2.1, hx5⟩
        clear e0 e1
        have e0 : x5.cell? ⟨ec, 0, none⟩ = some (.int .i64 0) := by simp [World.cell?, mx5]
        have e1 : x5.cell? ⟨ec, 1, none⟩ = some (.slice lp 0 l3) := by simp [World.cell?, mx5]
        clear mx5 hx5
        obtain ⟨d0, d1⟩ := Ax5.out.1.rcl
        have HN2 : Hid (Calls Tryd.prog 41 #[.agg #[.int .i64 (ln : Int), .slice (some ⟨A, 0, none⟩) X.length lc], .int .i64 2, .int .u64 (M : Int), .int .i64 7] x5 (NuA (bs u2) M 7 ln x5)) := rnum_calls x5 ln A lc X 2 M 7 u2 Ax5.out.1.st HW.out HU.out.2.1 (by omega) (by decide)
        go_wp2_with fail
        refine HN2.out.mono ?_
        rintro e9 x6 ⟨v, rfl, hv, hx6⟩
        have HBV : Hid (bnE (bs u2) (M + 1) 7 = 0 → bnV (bs u2) (M + 1) 7 = (val (bs u2) : Int)) := fun q => by unfold bnV; rw [if_pos q]
        obtain ⟨V2, hV2⟩ : ∃ V2, bnV (bs u2) (M + 1) 7 = V2 := ⟨_, rfl⟩
        rw [hV2] at HBV ⊢
        have m5 := (hx6.block _ (Array.getElem?_eq_some_iff.1 Ax5.out.2.1).1).trans Ax5.out.2.1
        have Ax6 : Hid (ArS w rb z1 z2 ln A lc X x6 ∧ x6.heap[ec]? = some (.cells #[.int .i64 0, .slice lp 0 l3] 35)) := ⟨Ax5.out.1.up hx6, m5⟩
        have t0 : x6.cell? ⟨ec, 0, none⟩ = some (.int .i64 0) := by simp [World.cell?, m5]
        have t1 : x6.cell? ⟨ec, 1, none⟩ = some (.slice lp 0 l3) := by simp [World.cell?, m5]
        have t2 : x6.frozen? ⟨ec, 0, none⟩ = false := by simp [World.frozen?, m5]
        have t3 : x6.frozen? ⟨ec, 1, none⟩ = false := by simp [World.frozen?, m5]
        clear HN2 hx6 d0 d1 hV2 m5 e0 e1
        rcases nuE_split hv with ⟨hb1, lq, l4, rfl⟩ | ⟨c, lq, l4, hb1, hc, rfl, hp⟩
        · have HB2 : Hid (bnE (bs u2) (M + 1) 7 = 0 ∧ V2 = (val (bs u2) : Int)) := ⟨hb1, HBV.out hb1⟩
          clear hv hb1 HBV
          obtain ⟨W4, hW4⟩ : ∃ W4, (x6.setCell ⟨ec, 0, none⟩ (.int .i64 0)).setCell ⟨ec, 1, none⟩ (.slice lq 0 l4) = W4 := ⟨_, rfl⟩
          have S5 := Ax6.out.1.setE Ax6.out.2 HEC.out AW3.out.2.2.1 (.int .i64 0) (.slice lq 0 l4)
          rw [hW4] at S5
          have AW4 : Hid (ArS w rb z1 z2 ln A lc X W4 ∧ W4.heap[ec]? = some (.cells #[.int .i64 0, .slice lq 0 l4] 35) ∧ w.heap.size ≤ ec ∧ (∀ sl ps, RefPl x6 sl ps → RefPl W4 sl ps)) := ⟨S5.1, S5.2.1, AW3.out.2.2.1, S5.2.2⟩
          have e0 : W4.cell? ⟨ec, 0, none⟩ = some (.int .i64 0) := by have := S5.2.1; simp [World.cell?, this]
          have e1 : W4.cell? ⟨ec, 1, none⟩ = some (.slice lq 0 l4) := by have := S5.2.1; simp [World.cell?, this]
          clear S5
          go_wp2_with fail
          refine (bad_calls 0 lq 0 l4 W4).mono ?_
          rintro e9 x7 ⟨rfl, hx7⟩
          have mx7 := (hx7.block _ (Array.getElem?_eq_some_iff.1 AW4.out.2.1).1).trans AW4.out.2.1
          have Ax7 : Hid (ArS w rb z1 z2 ln A lc X x7 ∧ x7.heap[ec]? = some (.cells #[.int .i64 0, .slice lq 0 l4] 35) ∧ w.heap.size ≤ ec ∧ Below W4.heap.size W4 x7) := ⟨AW4.out.1.up hx7, mx7, AW4.out.2.2.1, hx7⟩
          clear e0 e1
          have e0 : x7.cell? ⟨ec, 0, none⟩ = some (.int .i64 0) := by simp [World.cell?, mx7]
          have e1 : x7.cell? ⟨ec, 1, none⟩ = some (.slice lq 0 l4) := by simp [World.cell?, mx7]
          clear mx7 hx7
          clear hW4 t0 t1 t2 t3
          obtain ⟨d0, d1⟩ := Ax7.out.1.rcl
          have HN3 : Hid (Calls Tryd.prog 41 #[.agg #[.int .i64 (ln : Int), .slice (some ⟨A, 0, none⟩) X.length lc], .int .i64 3, .int .u64 2147483647, .int .i64 8] x7 (NuA (bs u3) 2147483647 8 ln x7)) := rnum_calls x7 ln A lc X 3 2147483647 8 u3 Ax7.out.1.st HW.out HU.out.2.2 (by omega) (by decide)
          go_wp2_with fail
          refine HN3.out.mono ?_
          rintro e9 x8 ⟨v, rfl, hv, hx8⟩
          have HBV : Hid (bnE (bs u3) (2147483647 + 1) 8 = 0 → bnV (bs u3) (2147483647 + 1) 8 = (val (bs u3) : Int)) := fun q => by unfold bnV; rw [if_pos q]
          obtain ⟨V3, hV3⟩ : ∃ V3, bnV (bs u3) (2147483647 + 1) 8 = V3 := ⟨_, rfl⟩
          rw [hV3] at HBV ⊢
          have m5 := (hx8.block _ (Array.getElem?_eq_some_iff.1 Ax7.out.2.1).1).trans Ax7.out.2.1
          have Ax8 : Hid (ArS w rb z1 z2 ln A lc X x8 ∧ x8.heap[ec]? = some (.cells #[.int .i64 0, .slice lq 0 l4] 35)) := ⟨Ax7.out.1.up hx8, m5⟩
          have t0 : x8.cell? ⟨ec, 0, none⟩ = some (.int .i64 0) := by simp [World.cell?, m5]
          have t1 : x8.cell? ⟨ec, 1, none⟩ = some (.slice lq 0 l4) := by simp [World.cell?, m5]
          have t2 : x8.frozen? ⟨ec, 0, none⟩ = false := by simp [World.frozen?, m5]
          have t3 : x8.frozen? ⟨ec, 1, none⟩ = false := by simp [World.frozen?, m5]
          clear HN3 hx8 d0 d1 hV3 m5 e0 e1
          rcases nuE_split hv with ⟨hb1, lr, l5, rfl⟩ | ⟨c, lr, l5, hb1, hc, rfl, hp⟩
          · have HB3 : Hid (bnE (bs u3) (2147483647 + 1) 8 = 0 ∧ V3 = (val (bs u3) : Int)) := ⟨hb1, HBV.out hb1⟩
            clear hv hb1 HBV
            obtain ⟨W5, hW5⟩ : ∃ W5, (x8.setCell ⟨ec, 0, none⟩ (.int .i64 0)).setCell ⟨ec, 1, none⟩ (.slice lr 0 l5) = W5 := ⟨_, rfl⟩
            have S5 := Ax8.out.1.setE Ax8.out.2 HEC.out AW3.out.2.2.1 (.int .i64 0) (.slice lr 0 l5)
            rw [hW5] at S5
            have AW5 : Hid (ArS w rb z1 z2 ln A lc X W5 ∧ W5.heap[ec]? = some (.cells #[.int .i64 0, .slice lr 0 l5] 35) ∧ w.heap.size ≤ ec ∧ (∀ sl ps, RefPl x8 sl ps → RefPl W5 sl ps)) := ⟨S5.1, S5.2.1, AW3.out.2.2.1, S5.2.2⟩
            have e0 : W5.cell? ⟨ec, 0, none⟩ = some (.int .i64 0) := by have := S5.2.1; simp [World.cell?, this]
            have e1 : W5.cell? ⟨ec, 1, none⟩ = some (.slice lr 0 l5) := by have := S5.2.1; simp [World.cell?, this]
            clear S5
            go_wp2_with fail
            refine (bad_calls 0 lr 0 l5 W5).mono ?_
            rintro e9 x9 ⟨rfl, hx9⟩
            have mx9 := (hx9.block _ (Array.getElem?_eq_some_iff.1 AW5.out.2.1).1).trans AW5.out.2.1
            have Ax9 : Hid (ArS w rb z1 z2 ln A lc X x9 ∧ x9.heap[ec]? = some (.cells #[.int .i64 0, .slice lr 0 l5] 35) ∧ w.heap.size ≤ ec ∧ Below W5.heap.size W5 x9) := ⟨AW5.out.1.up hx9, mx9, AW5.out.2.2.1, hx9⟩
            clear e0 e1
            have e0 : x9.cell? ⟨ec, 0, none⟩ = some (.int .i64 0) := by simp [World.cell?, mx9]
            have e1 : x9.cell? ⟨ec, 1, none⟩ = some (.slice lr 0 l5) := by simp [World.cell?, mx9]
            clear mx9 hx9
            clear hW5 t0 t1 t2 t3
            have HV9 : Hid (aV (X.map bs) (M + 1) = (V1, V2, V3) ∧ aE (X.map bs) (M + 1) ln = (0, [])) := by
              have q : rowE (X.map bs) awd (bA (M + 1)) = 0 := by rw [HROW.out, if_pos HB1.out.1, if_pos HB2.out.1, if_pos HB3.out.1]
              exact ⟨by rw [HVAL.out q, HB1.out.2, HB2.out.2, HB3.out.2], by unfold aE; rw [if_pos q]⟩
            obtain ⟨y0, y1, y2, y3, y4, g0, g1, g2, g3, g4⟩ := Ax9.out.1.cl
            obtain ⟨q1, q2⟩ := Ax9.out.1.ne
            have k1 := at_ne Ax9.out.2.1 Ax9.out.1.r1 ac_ne.2.1
            have k2 := Ne.symm k1
            go_upto_region 18 with fail
            go_region
            go_wp2
            all_goals first
             | (have gF := ar_fin1d Ax9.out.1 (.int .i64 V1) (.int .i64 V2) (.int .i64 V3) (.int .i64 0) (.slice lr 0 l5) (refpl_nil x9 lr l5)
                refine bodyPost_ret (arc_res (z1 := z1) (z2 := z2) (a := (.int .i64 V1)) (b := (.int .i64 V2)) (c := (.int .i64 V3)) (x0 := (.int .i64 0)) (x1 := (.slice lr 0 l5)) (by with_reducible exact gF.1) (by with_reducible exact gF.2.1) rfl rfl) rfl ?_
                unfold AcA
                rw [HV9.out.1, HV9.out.2]
                exact ⟨_, rfl, ⟨_, _, rfl, gF.2.2.2⟩, gF.2.2.1⟩)
             | (have gF := ar_fin2d Ax9.out.1 (.int .i64 V1) (.int .i64 V2) (.int .i64 V3) (.int .i64 0) (.slice lr 0 l5) (refpl_nil x9 lr l5)
                refine bodyPost_ret (arc_res (z1 := z1) (z2 := z2) (a := (.int .i64 V1)) (b := (.int .i64 V2)) (c := (.int .i64 V3)) (x0 := (.int .i64 0)) (x1 := (.slice lr 0 l5)) (by with_reducible exact gF.1) (by with_reducible exact gF.2.1) rfl rfl) rfl ?_
                unfold AcA
                rw [HV9.out.1, HV9.out.2]
                exact ⟨_, rfl, ⟨_, _, rfl, gF.2.2.2⟩, gF.2.2.1⟩)
          · have HR : Hid (rowE (X.map bs) awd (bA (M + 1)) = c ∧ c ≠ 0) := ⟨by rw [HROW.out, if_pos HB1.out.1, if_pos HB2.out.1, if_neg (by rw [hb1]; exact hc)]; exact hb1, hc⟩
            have HP : Hid (RefPl x8 (.slice lr 1 l5) [(1, (ln : Int))]) := hp
            clear hv hb1 hc hp
            obtain ⟨W5, hW5⟩ : ∃ W5, (x8.setCell ⟨ec, 0, none⟩ (.int .i64 c)).setCell ⟨ec, 1, none⟩ (.slice lr 1 l5) = W5 := ⟨_, rfl⟩
            have S5 := Ax8.out.1.setE Ax8.out.2 HEC.out AW3.out.2.2.1 (.int .i64 c) (.slice lr 1 l5)
            rw [hW5] at S5
            have AW5 : Hid (ArS w rb z1 z2 ln A lc X W5 ∧ W5.heap[ec]? = some (.cells #[.int .i64 c, .slice lr 1 l5] 35) ∧ w.heap.size ≤ ec ∧ (∀ sl ps, RefPl x8 sl ps → RefPl W5 sl ps)) := ⟨S5.1, S5.2.1, AW3.out.2.2.1, S5.2.2⟩
            have e0 : W5.cell? ⟨ec, 0, none⟩ = some (.int .i64 c) := by have := S5.2.1; simp [World.cell?, this]
            have e1 : W5.cell? ⟨ec, 1, none⟩ = some (.slice lr 1 l5) := by have := S5.2.1; simp [World.cell?, this]
            clear S5
            go_wp2_with fail
            refine (bad_calls c lr 1 l5 W5).mono ?_
            rintro e9 x9 ⟨rfl, hx9⟩
            have mx9 := (hx9.block _ (Array.getElem?_eq_some_iff.1 AW5.out.2.1).1).trans AW5.out.2.1
            have Ax9 : Hid (ArS w rb z1 z2 ln A lc X x9 ∧ x9.heap[ec]? = some (.cells #[.int .i64 c, .slice lr 1 l5] 35) ∧ w.heap.size ≤ ec ∧ Below W5.heap.size W5 x9) := ⟨AW5.out.1.up hx9, mx9, AW5.out.2.2.1, hx9⟩
            clear e0 e1
            have e0 : x9.cell? ⟨ec, 0, none⟩ = some (.int .i64 c) := by simp [World.cell?, mx9]
            have e1 : x9.cell? ⟨ec, 1, none⟩ = some (.slice lr 1 l5) := by simp [World.cell?, mx9]
            clear mx9 hx9
            have HP3 : Hid (RefPl x9 (.slice lr 1 l5) [(1, (ln : Int))]) := (AW5.out.2.2.2 _ _ HP.out).keep Ax9.out.2.2.2
            clear hW5 t0 t1 t2 t3
            obtain ⟨y0, y1, y2, y3, y4, g0, g1, g2, g3, g4⟩ := Ax9.out.1.cl
            obtain ⟨q1, q2⟩ := Ax9.out.1.ne
            have k1 := at_ne Ax9.out.2.1 Ax9.out.1.r1 ac_ne.2.1
            have k2 := Ne.symm k1
            go_upto_region 17 with fail
            go_region
            go_wp2
            all_goals first
             | (have gF := ar_fin1d Ax9.out.1 (.int .i64 0) (.int .i64 0) (.int .i64 0) (.int .i64 c) (.slice lr 1 l5) HP3.out
                refine bodyPost_ret (arc_res (z1 := z1) (z2 := z2) (a := (.int .i64 0)) (b := (.int .i64 0)) (c := (.int .i64 0)) (x0 := (.int .i64 c)) (x1 := (.slice lr 1 l5)) (by with_reducible exact gF.1) (by with_reducible exact gF.2.1) rfl rfl) rfl ?_
                unfold AcA
                rw [aV_bad HR.out.1 HR.out.2, aE_bad HR.out.1 HR.out.2]
                exact ⟨_, rfl, ⟨_, _, rfl, gF.2.2.2⟩, gF.2.2.1⟩)
             | (have gF := ar_fin2d Ax9.out.1 (.int .i64 0) (.int .i64 0) (.int .i64 0) (.int .i64 c) (.slice lr 1 l5) HP3.out
                refine bodyPost_ret (arc_res (z1 := z1) (z2 := z2) (a := (.int .i64 0)) (b := (.int .i64 0)) (c := (.int .i64 0)) (x0 := (.int .i64 c)) (x1 := (.slice lr 1 l5)) (by with_reducible exact gF.1) (by with_reducible exact gF.2.1) rfl rfl) rfl ?_
                unfold AcA
                rw [aV_bad HR.out.1 HR.out.2, aE_bad HR.out.1 HR.out.2]
                exact ⟨_, rfl, ⟨_, _, rfl, gF.2.2.2⟩, gF.2.2.1⟩)
        · have HR : Hid (rowE (X.map bs) awd (bA (M + 1)) = c ∧ c ≠ 0) := ⟨by rw [HROW.out, if_pos HB1.out.1, if_neg (by rw [hb1]; exact hc)]; exact hb1, hc⟩
          have HP : Hid (RefPl x6 (.slice lq 1 l4) [(1, (ln : Int))]) := hp
          clear hv hb1 hc hp
          obtain ⟨W4, hW4⟩ : ∃ W4, (x6.setCell ⟨ec, 0, none⟩ (.int .i64 c)).setCell ⟨ec, 1, none⟩ (.slice lq 1 l4) = W4 := ⟨_, rfl⟩
          have S5 := Ax6.out.1.setE Ax6.out.2 HEC.out AW3.out.2.2.1 (.int .i64 c) (.slice lq 1 l4)
          rw [hW4] at S5
          have AW4 : Hid (ArS w rb z1 z2 ln A lc X W4 ∧ W4.heap[ec]? = some (.cells #[.int .i64 c, .slice lq 1 l4] 35) ∧ w.heap.size ≤ ec ∧ (∀ sl ps, RefPl x6 sl ps → RefPl W4 sl ps)) := ⟨S5.1, S5.2.1, AW3.out.2.2.1, S5.2.2⟩
          have e0 : W4.cell? ⟨ec, 0, none⟩ = some (.int .i64 c) := by have := S5.2.1; simp [World.cell?, this]
          have e1 : W4.cell? ⟨ec, 1, none⟩ = some (.slice lq 1 l4) := by have := S5.2.1; simp [World.cell?, this]
          clear S5
          go_wp2_with fail
          refine (bad_calls c lq 1 l4 W4).mono ?_
          rintro e9 x7 ⟨rfl, hx7⟩
          have mx7 := (hx7.block _ (Array.getElem?_eq_some_iff.1 AW4.out.2.1).1).trans AW4.out.2.1
          have Ax7 : Hid (ArS w rb z1 z2 ln A lc X x7 ∧ x7.heap[ec]? = some (.cells #[.int .i64 c, .slice lq 1 l4] 35) ∧ w.heap.size ≤ ec ∧ Below W4.heap.size W4 x7) := ⟨AW4.out.1.up hx7, mx7, AW4.out.2.2.1, hx7⟩
          clear e0 e1
          have e0 : x7.cell? ⟨ec, 0, none⟩ = some (.int .i64 c) := by simp [World.cell?, mx7]
          have e1 : x7.cell? ⟨ec, 1, none⟩ = some (.slice lq 1 l4) := by simp [World.cell?, mx7]
          clear mx7 hx7
          have HP3 : Hid (RefPl x7 (.slice lq 1 l4) [(1, (ln : Int))]) := (AW4.out.2.2.2 _ _ HP.out).keep Ax7.out.2.2.2
          clear hW4 t0 t1 t2 t3
          obtain ⟨y0, y1, y2, y3, y4, g0, g1, g2, g3, g4⟩ := Ax7.out.1.cl
          obtain ⟨q1, q2⟩ := Ax7.out.1.ne
          have k1 := at_ne Ax7.out.2.1 Ax7.out.1.r1 ac_ne.2.1
          have k2 := Ne.symm k1
          go_upto_region 14 with fail
          go_region
          go_wp2
          all_goals first
           | (have gF := ar_fin1d Ax7.out.1 (.int .i64 0) (.int .i64 0) (.int .i64 0) (.int .i64 c) (.slice lq 1 l4) HP3.out
              refine bodyPost_ret (arc_res (z1 := z1) (z2 := z2) (a := (.int .i64 0)) (b := (.int .i64 0)) (c := (.int .i64 0)) (x0 := (.int .i64 c)) (x1 := (.slice lq 1 l4)) (by with_reducible exact gF.1) (by with_reducible exact gF.2.1) rfl rfl) rfl ?_
              unfold AcA
              rw [aV_bad HR.out.1 HR.out.2, aE_bad HR.out.1 HR.out.2]
              exact ⟨_, rfl, ⟨_, _, rfl, gF.2.2.2⟩, gF.2.2.1⟩)
           | (have gF := ar_fin2d Ax7.out.1 (.int .i64 0) (.int .i64 0) (.int .i64 0) (.int .i64 c) (.slice lq 1 l4) HP3.out
              refine bodyPost_ret (arc_res (z1 := z1) (z2 := z2) (a := (.int .i64 0)) (b := (.int .i64 0)) (c := (.int .i64 0)) (x0 := (.int .i64 c)) (x1 := (.slice lq 1 l4)) (by with_reducible exact gF.1) (by with_reducible exact gF.2.1) rfl rfl) rfl ?_
              unfold AcA
              rw [aV_bad HR.out.1 HR.out.2, aE_bad HR.out.1 HR.out.2]
              exact ⟨_, rfl, ⟨_, _, rfl, gF.2.2.2⟩, gF.2.2.1⟩)
      · have HR : Hid (rowE (X.map bs) awd (bA (M + 1)) = c ∧ c ≠ 0) := ⟨by rw [HROW.out, if_neg (by rw [hb1]; exact hc)]; exact hb1, hc⟩
        have HP : Hid (RefPl x4 (.slice lp 1 l3) [(1, (ln : Int))]) := hp
        clear hv hb1 hc hp
        obtain ⟨ec, hec⟩ : ∃ ec, x4.heap.size = ec := ⟨_, rfl⟩
        obtain ⟨W3, hW3⟩ : ∃ W3, x4.alloc (.cells #[.int .i64 c, .slice lp 1 l3] 35) = W3 := ⟨_, rfl⟩
        have HW3 : Hid (x4.alloc (.cells #[.int .i64 c, .slice lp 1 l3] 35) = W3) := hW3
        have bW3 : Below x4.heap.size x4 W3 := by rw [← hW3]; exact (Below.refl _ _).alloc (Nat.le_refl _) _
        have mW3 : W3.heap[ec]? = some (.cells #[.int .i64 c, .slice lp 1 l3] 35) := by rw [← hW3, ← hec]; exact heap_newG _ _
        have AW3 : Hid (ArS w rb z1 z2 ln A lc X W3 ∧ W3.heap[ec]? = some (.cells #[.int .i64 c, .slice lp 1 l3] 35) ∧ w.heap.size ≤ ec ∧ Below x4.heap.size x4 W3) := ⟨HX4.out.1.up bW3, mW3, by have := HX4.out.1.bel.size; omega, bW3⟩
        have e0 : W3.cell? ⟨ec, 0, none⟩ = some (.int .i64 c) := by simp [World.cell?, mW3]
        have e1 : W3.cell? ⟨ec, 1, none⟩ = some (.slice lp 1 l3) := by simp [World.cell?, mW3]
        clear hW3 bW3 mW3
        go_upto_region 10 with fail
        rw [HW3.out]
        try rw [hec]
        go_wp2_with fail
        refine (bad_calls c lp 1 l3 W3).mono ?_
        rintro e9 x5 ⟨rfl, hx5⟩
        have mx5 := (hx5.block _ (Array.getElem?_eq_some_iff.1 AW3.out.2.1).1).trans AW3.out.2.1
        have Ax5 : Hid (ArS w rb z1 z2 ln A lc X x5 ∧ x5.heap[ec]? = some (.cells #[.int .i64 c, .slice lp 1 l3] 35) ∧ w.heap.size ≤ ec ∧ Below W3.heap.size W3 x5) := ⟨AW3.out.1.up hx5, mx5, AW3.out.2.2.1, hx5⟩
        clear e0 e1
        have e0 : x5.cell? ⟨ec, 0, none⟩ = some (.int .i64 c) := by simp [World.cell?, mx5]
        have e1 : x5.cell? ⟨ec, 1, none⟩ = some (.slice lp 1 l3) := by simp [World.cell?, mx5]
        clear mx5 hx5
        have HP3 : Hid (RefPl x5 (.slice lp 1 l3) [(1, (ln : Int))]) := (HP.out.keep AW3.out.2.2.2).keep Ax5.out.2.2.2
        obtain ⟨y0, y1, y2, y3, y4, g0, g1, g2, g3, g4⟩ := Ax5.out.1.cl
        obtain ⟨q1, q2⟩ := Ax5.out.1.ne
        have k1 := at_ne Ax5.out.2.1 Ax5.out.1.r1 ac_ne.2.1
        have k2 := Ne.symm k1
        go_upto_region 11 with fail
        go_region
        go_wp2
        all_goals first
         | (have gF := ar_fin1d Ax5.out.1 (.int .i64 0) (.int .i64 0) (.int .i64 0) (.int .i64 c) (.slice lp 1 l3) HP3.out
            refine bodyPost_ret (arc_res (z1 := z1) (z2 := z2) (a := (.int .i64 0)) (b := (.int .i64 0)) (c := (.int .i64 0)) (x0 := (.int .i64 c)) (x1 := (.slice lp 1 l3)) (by with_reducible exact gF.1) (by with_reducible exact gF.2.1) rfl rfl) rfl ?_
            unfold AcA
            rw [aV_bad HR.out.1 HR.out.2, aE_bad HR.out.1 HR.out.2]
            exact ⟨_, rfl, ⟨_, _, rfl, gF.2.2.2⟩, gF.2.2.1⟩)
         | (have gF := ar_fin2d Ax5.out.1 (.int .i64 0) (.int .i64 0) (.int .i64 0) (.int .i64 c) (.slice lp 1 l3) HP3.out
            refine bodyPost_ret (arc_res (z1 := z1) (z2 := z2) (a := (.int .i64 0)) (b := (.int .i64 0)) (c := (.int .i64 0)) (x0 := (.int .i64 c)) (x1 := (.slice lp 1 l3)) (by with_reducible exact gF.1) (by with_reducible exact gF.2.1) rfl rfl) rfl ?_
            unfold AcA
            rw [aV_bad HR.out.1 HR.out.2, aE_bad HR.out.1 HR.out.2]
            exact ⟨_, rfl, ⟨_, _, rfl, gF.2.2.2⟩, gF.2.2.1⟩)
  · have HR : Hid (rowE (X.map bs) awd (bA N) = c ∧ c ≠ 0) := ⟨by rw [row_fm, show 1 + (bA N).length = 4 from rfl, if_neg (by rw [hfm]; exact hc)]; exact hfm, hc⟩
    have HP : Hid (RefPl x1 (.slice lo 1 l2) [(1, (ln : Int))]) := hp
    clear hv hfm hc hp
    obtain ⟨eb, heb⟩ : ∃ eb, x1.heap.size = eb := ⟨_, rfl⟩
    obtain ⟨W2, hW2⟩ : ∃ W2, x1.alloc (.cells #[.int .i64 c, .slice lo 1 l2] 35) = W2 := ⟨_, rfl⟩
    have HW2 : Hid (x1.alloc (.cells #[.int .i64 c, .slice lo 1 l2] 35) = W2) := hW2
    have bW2 : Below x1.heap.size x1 W2 := by rw [← hW2]; exact (Below.refl _ _).alloc (Nat.le_refl _) _
    have mW2 : W2.heap[eb]? = some (.cells #[.int .i64 c, .slice lo 1 l2] 35) := by rw [← hW2, ← heb]; exact heap_newG _ _
    have AW2 : Hid (ArS w rb z1 z2 ln A lc X W2 ∧ W2.heap[eb]? = some (.cells #[.int .i64 c, .slice lo 1 l2] 35) ∧ w.heap.size ≤ eb ∧ Below x1.heap.size x1 W2) := ⟨HX1.out.1.up bW2, mW2, by have := HX1.out.1.bel.size; omega, bW2⟩
    have e0 : W2.cell? ⟨eb, 0, none⟩ = some (.int .i64 c) := by simp [World.cell?, mW2]
    have e1 : W2.cell? ⟨eb, 1, none⟩ = some (.slice lo 1 l2) := by simp [World.cell?, mW2]
    clear hW2 bW2 mW2
    go_upto_region 2 with fail
    rw [HW2.out]
    try rw [heb]
    go_wp2_with fail
    refine (bad_calls c lo 1 l2 W2).mono ?_
    rintro e9 x3 ⟨rfl, hx3⟩
    have mx3 := (hx3.block _ (Array.getElem?_eq_some_iff.1 AW2.out.2.1).1).trans AW2.out.2.1
    have Ax3 : Hid (ArS w rb z1 z2 ln A lc X x3 ∧ x3.heap[eb]? = some (.cells #[.int .i64 c, .slice lo 1 l2] 35) ∧ w.heap.size ≤ eb ∧ Below W2.heap.size W2 x3) := ⟨AW2.out.1.up hx3, mx3, AW2.out.2.2.1, hx3⟩
    clear e0 e1
    have e0 : x3.cell? ⟨eb, 0, none⟩ = some (.int .i64 c) := by simp [World.cell?, mx3]
    have e1 : x3.cell? ⟨eb, 1, none⟩ = some (.slice lo 1 l2) := by simp [World.cell?, mx3]
    clear mx3 hx3
    have HP3 : Hid (RefPl x3 (.slice lo 1 l2) [(1, (ln : Int))]) := (HP.out.keep AW2.out.2.2.2).keep Ax3.out.2.2.2
    obtain ⟨y0, y1, y2, y3, y4, g0, g1, g2, g3, g4⟩ := Ax3.out.1.cl
    obtain ⟨q1, q2⟩ := Ax3.out.1.ne
    have k1 := at_ne Ax3.out.2.1 Ax3.out.1.r1 ac_ne.2.1
    have k2 := Ne.symm k1
    go_upto_region 3 with fail
    go_region
    go_wp2
    all_goals first
     | (have gF := ar_fin1d Ax3.out.1 (.int .i64 0) (.int .i64 0) (.int .i64 0) (.int .i64 c) (.slice lo 1 l2) HP3.out
        refine bodyPost_ret (arc_res (z1 := z1) (z2 := z2) (a := (.int .i64 0)) (b := (.int .i64 0)) (c := (.int .i64 0)) (x0 := (.int .i64 c)) (x1 := (.slice lo 1 l2)) (by with_reducible exact gF.1) (by with_reducible exact gF.2.1) rfl rfl) rfl ?_
        unfold AcA
        rw [aV_bad HR.out.1 HR.out.2, aE_bad HR.out.1 HR.out.2]
        exact ⟨_, rfl, ⟨_, _, rfl, gF.2.2.2⟩, gF.2.2.1⟩)
     | (have gF := ar_fin2d Ax3.out.1 (.int .i64 0) (.int .i64 0) (.int .i64 0) (.int .i64 c) (.slice lo 1 l2) HP3.out
        refine bodyPost_ret (arc_res (z1 := z1) (z2 := z2) (a := (.int .i64 0)) (b := (.int .i64 0)) (c := (.int .i64 0)) (x0 := (.int .i64 c)) (x1 := (.slice lo 1 l2)) (by with_reducible exact gF.1) (by with_reducible exact gF.2.1) rfl rfl) rfl ?_
        unfold AcA
        rw [aV_bad HR.out.1 HR.out.2, aE_bad HR.out.1 HR.out.2]
        exact ⟨_, rfl, ⟨_, _, rfl, gF.2.2.2⟩, gF.2.2.1⟩)
end Go.Proofs.YtghbekpilhnkfabDoor.Gt
