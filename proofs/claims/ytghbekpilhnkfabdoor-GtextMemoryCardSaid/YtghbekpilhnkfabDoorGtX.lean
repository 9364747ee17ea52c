/- the reference's DocGraph, walked. (gendg.py) -/
import Derived.Test.YtghbekpilhnkfabDoorGtW
namespace Go.Proofs.YtghbekpilhnkfabDoor.Gt
open Go Go.Lib Go.RowKit Go.Extern Hi

attribute [local go_sem] Oper.semAt_some

/-- the error of rows that are a graph or none. -/
def gE (R : List Row) : Int × List (Int × Int) := if (gR R).1.1 = 0 then (0, []) else ((gR R).1.1, [(1, ((gR R).1.2 : Int))])
def DgA (R : List Row) (w : World) (e : Ending) (w' : World) : Prop := ∃ (u : Value) (ao : Option Addr) (ac : Nat), e = .returned (.tuple #[.agg #[.int .i64 ((gR R).2.1 : Int), .slice ao (gR R).2.2.length ac], u]) ∧ IsRef w' (gE R) u ∧ w'.ownsRow w.heap.size 42 3 (.slice ao (gR R).2.2.length ac) (gR R).2.2.length (acs (gR R).2.2) ∧ Below w.heap.size w w'
theorem dg_bad {R : List Row} {w W : World} {c : Int} {l l2 : Nat} {lo : Option Addr} (h : gR R = ((c, l), 0, [])) (hc : c ≠ 0) (hp : RefPl W (.slice lo 1 l2) [(1, (l : Int))]) (hb : Below w.heap.size w W) : DgA R w (.returned (.tuple #[.agg #[.int .i64 0, .slice none 0 0], .agg #[.int .i64 c, .slice lo 1 l2]])) W := by
  have e : gE R = (c, [(1, (l : Int))]) := by unfold gE; rw [h, if_neg hc]
  refine ⟨_, none, 0, by rw [h]; rfl, by rw [e]; exact ⟨_, _, rfl, hp⟩, by rw [h]; exact World.ownsRow_nil _ _ _ _, hb⟩
theorem dg_res {W : World} {z1 z2 : Nat} {a b x0 x1 : Value} {tmps : Array Value} (h1 : W.heap[z1]? = some (.cells #[a, b] 24)) (h2 : W.heap[z2]? = some (.cells #[x0, x1] 35)) (t1 : tmps[2]?.getD undef = .pointer (some ⟨z1, 0, none⟩)) (t2 : tmps[3]?.getD undef = .pointer (some ⟨z2, 0, none⟩)) :
    (results Tryd.f28 tmps).run Tryd.prog W = .ok (.tuple #[.agg #[a, b], .agg #[x0, x1]]) W := by
  have c0 : W.cell? ⟨z1, 0, none⟩ = some a := by simp [World.cell?, h1]
  have c1 : W.cell? ⟨z1, 1, none⟩ = some b := by simp [World.cell?, h1]
  have d0 : W.cell? ⟨z2, 0, none⟩ = some x0 := by simp [World.cell?, h2]
  have d1 : W.cell? ⟨z2, 1, none⟩ = some x1 := by simp [World.cell?, h2]
  simp [results, Tryd.results28, go_sem, t1, t2, c0, c1, d0, d1]
/-- the state of DocGraph's walk. -/
structure DgS (w : World) (z1 z2 : Nat) (W : World) : Prop where
  bel : Below w.heap.size w W
  r1 : W.heap[z1]? = some (.cells #[.int .i64 0, .slice none 0 0] 24)
  r2 : W.heap[z2]? = some (.cells #[.int .i64 0, .slice none 0 0] 35)
  lt : w.heap.size ≤ z1 ∧ w.heap.size ≤ z2
theorem dg_ne : 35 ≠ 24 ∧ 24 ≠ 35 ∧ 77 ≠ 24 ∧ 42 ≠ 24 ∧ 42 ≠ 35 ∧ 24 ≠ 42 ∧ 35 ≠ 42 ∧ 77 ≠ 35 := by decide
section
variable {w W Y : World} {z1 z2 gb N : Nat} {A : List Arc3} {ao : Option Addr} {ac : Nat}
theorem DgS.up (h : DgS w z1 z2 W) (hb : Below W.heap.size W Y) : DgS w z1 z2 Y := by
  have kp : ∀ {j : Nat} {c : Array Value} {T : TypeId}, W.heap[j]? = some (.cells c T) → Y.heap[j]? = some (.cells c T) := fun hj => (hb.block _ (Array.getElem?_eq_some_iff.1 hj).1).trans hj
  exact ⟨h.bel.trans (hb.mono h.bel.size), kp h.r1, kp h.r2, h.lt⟩
theorem DgS.cl (h : DgS w z1 z2 Y) : Y.cell? ⟨z1, 0, none⟩ = some (.int .i64 0) ∧ Y.cell? ⟨z1, 1, none⟩ = some (.slice none 0 0) ∧ Y.cell? ⟨z2, 0, none⟩ = some (.int .i64 0) ∧ Y.cell? ⟨z2, 1, none⟩ = some (.slice none 0 0) ∧ Y.frozen? ⟨z1, 0, none⟩ = false ∧ Y.frozen? ⟨z1, 1, none⟩ = false ∧ Y.frozen? ⟨z2, 0, none⟩ = false ∧ Y.frozen? ⟨z2, 1, none⟩ = false := by
  have h1 := h.r1
  have h2 := h.r2
  exact ⟨by simp [World.cell?, h1], by simp [World.cell?, h1], by simp [World.cell?, h2], by simp [World.cell?, h2], by simp [World.frozen?, h1], by simp [World.frozen?, h1], by simp [World.frozen?, h2], by simp [World.frozen?, h2]⟩
theorem DgS.ne (h : DgS w z1 z2 Y) : z1 ≠ z2 ∧ z2 ≠ z1 := ⟨at_ne h.r1 h.r2 dg_ne.2.1, at_ne h.r2 h.r1 dg_ne.1⟩
theorem dg_fin1 (h : DgS w z1 z2 Y) (a b u v : Value) {ps : List (Int × Int)} (hp : RefPl Y v ps) :
    ((((Y.setCell ⟨z1, 0, none⟩ a).setCell ⟨z1, 1, none⟩ b).setCell ⟨z2, 0, none⟩ u).setCell ⟨z2, 1, none⟩ v).heap[z1]? = some (.cells #[a, b] 24) ∧ ((((Y.setCell ⟨z1, 0, none⟩ a).setCell ⟨z1, 1, none⟩ b).setCell ⟨z2, 0, none⟩ u).setCell ⟨z2, 1, none⟩ v).heap[z2]? = some (.cells #[u, v] 35) ∧ Below w.heap.size w ((((Y.setCell ⟨z1, 0, none⟩ a).setCell ⟨z1, 1, none⟩ b).setCell ⟨z2, 0, none⟩ u).setCell ⟨z2, 1, none⟩ v) ∧ RefPl ((((Y.setCell ⟨z1, 0, none⟩ a).setCell ⟨z1, 1, none⟩ b).setCell ⟨z2, 0, none⟩ u).setCell ⟨z2, 1, none⟩ v) v ps := by
  obtain ⟨g1, g2⟩ := set_far h.bel h.lt.1 a b
  obtain ⟨g3, g4⟩ := set_far g1 h.lt.2 u v
  exact ⟨(g4 _ h.ne.1).trans (set_twoG h.r1 a b), set_twoG ((g2 _ h.ne.2).trans h.r2) u v, g3, hp.far fun g c2 hg => (g4 _ (at_ne hg h.r2 dg_ne.2.2.2.2.2.2.2)).trans ((g2 _ (at_ne hg h.r1 dg_ne.2.2.1)).trans hg)⟩
theorem dg_fin2 (h : DgS w z1 z2 Y) (a b u v : Value) {ps : List (Int × Int)} (hp : RefPl Y v ps) :
    ((((Y.setCell ⟨z2, 0, none⟩ u).setCell ⟨z2, 1, none⟩ v).setCell ⟨z1, 0, none⟩ a).setCell ⟨z1, 1, none⟩ b).heap[z1]? = some (.cells #[a, b] 24) ∧ ((((Y.setCell ⟨z2, 0, none⟩ u).setCell ⟨z2, 1, none⟩ v).setCell ⟨z1, 0, none⟩ a).setCell ⟨z1, 1, none⟩ b).heap[z2]? = some (.cells #[u, v] 35) ∧ Below w.heap.size w ((((Y.setCell ⟨z2, 0, none⟩ u).setCell ⟨z2, 1, none⟩ v).setCell ⟨z1, 0, none⟩ a).setCell ⟨z1, 1, none⟩ b) ∧ RefPl ((((Y.setCell ⟨z2, 0, none⟩ u).setCell ⟨z2, 1, none⟩ v).setCell ⟨z1, 0, none⟩ a).setCell ⟨z1, 1, none⟩ b) v ps := by
  obtain ⟨g3, g4⟩ := set_far h.bel h.lt.2 u v
  obtain ⟨g1, g2⟩ := set_far g3 h.lt.1 a b
  exact ⟨set_twoG ((g4 _ h.ne.1).trans h.r1) a b, (g2 _ h.ne.2).trans (set_twoG h.r2 u v), g1, hp.far fun g c2 hg => (g2 _ (at_ne hg h.r1 dg_ne.2.2.1)).trans ((g4 _ (at_ne hg h.r2 dg_ne.2.2.2.2.2.2.2)).trans hg)⟩
theorem dg_fin1d (h : DgS w z1 z2 Y) (a b u v : Value) {ps : List (Int × Int)} (hp : RefPl Y v ps) : ((((Y.setCell ⟨z1, 0, none⟩ a).setCell ⟨z1, 1, none⟩ b).setCell ⟨z2, 0, none⟩ u).setCell ⟨z2, 1, none⟩ v).drew.heap[z1]? = some (.cells #[a, b] 24) ∧ ((((Y.setCell ⟨z1, 0, none⟩ a).setCell ⟨z1, 1, none⟩ b).setCell ⟨z2, 0, none⟩ u).setCell ⟨z2, 1, none⟩ v).drew.heap[z2]? = some (.cells #[u, v] 35) ∧ Below w.heap.size w ((((Y.setCell ⟨z1, 0, none⟩ a).setCell ⟨z1, 1, none⟩ b).setCell ⟨z2, 0, none⟩ u).setCell ⟨z2, 1, none⟩ v).drew ∧ RefPl ((((Y.setCell ⟨z1, 0, none⟩ a).setCell ⟨z1, 1, none⟩ b).setCell ⟨z2, 0, none⟩ u).setCell ⟨z2, 1, none⟩ v).drew v ps := drew4 (dg_fin1 h a b u v hp)
theorem dg_fin2d (h : DgS w z1 z2 Y) (a b u v : Value) {ps : List (Int × Int)} (hp : RefPl Y v ps) : ((((Y.setCell ⟨z2, 0, none⟩ u).setCell ⟨z2, 1, none⟩ v).setCell ⟨z1, 0, none⟩ a).setCell ⟨z1, 1, none⟩ b).drew.heap[z1]? = some (.cells #[a, b] 24) ∧ ((((Y.setCell ⟨z2, 0, none⟩ u).setCell ⟨z2, 1, none⟩ v).setCell ⟨z1, 0, none⟩ a).setCell ⟨z1, 1, none⟩ b).drew.heap[z2]? = some (.cells #[u, v] 35) ∧ Below w.heap.size w ((((Y.setCell ⟨z2, 0, none⟩ u).setCell ⟨z2, 1, none⟩ v).setCell ⟨z1, 0, none⟩ a).setCell ⟨z1, 1, none⟩ b).drew ∧ RefPl ((((Y.setCell ⟨z2, 0, none⟩ u).setCell ⟨z2, 1, none⟩ v).setCell ⟨z1, 0, none⟩ a).setCell ⟨z1, 1, none⟩ b).drew v ps := drew4 (dg_fin2 h a b u v hp)
theorem DgS.zero (h : DgS w z1 z2 Y) : DgS w z1 z2 ((Y.setCell ⟨z1, 0, none⟩ (.int .i64 0)).setCell ⟨z1, 1, none⟩ (.slice none 0 0)) ∧ ∀ j, j ≠ z1 → ((Y.setCell ⟨z1, 0, none⟩ (.int .i64 0)).setCell ⟨z1, 1, none⟩ (.slice none 0 0)).heap[j]? = Y.heap[j]? := by
  obtain ⟨g1, g2⟩ := set_far h.bel h.lt.1 (.int .i64 0) (.slice none 0 0)
  exact ⟨⟨g1, set_twoG h.r1 _ _, (g2 _ h.ne.2).trans h.r2, h.lt⟩, g2⟩
/-- an error's box of its own is set. -/
theorem DgS.setE (h : DgS w z1 z2 Y) {eb : Nat} {x y : Value} (he : Y.heap[eb]? = some (.cells #[x, y] 35)) (hz : eb ≠ z2) (hw : w.heap.size ≤ eb) (u v : Value) : DgS w z1 z2 ((Y.setCell ⟨eb, 0, none⟩ u).setCell ⟨eb, 1, none⟩ v) ∧ ((Y.setCell ⟨eb, 0, none⟩ u).setCell ⟨eb, 1, none⟩ v).heap[eb]? = some (.cells #[u, v] 35) ∧ (∀ sl ps, RefPl Y sl ps → RefPl ((Y.setCell ⟨eb, 0, none⟩ u).setCell ⟨eb, 1, none⟩ v) sl ps) := by
  obtain ⟨g3, g4⟩ := set_far h.bel hw u v
  exact ⟨⟨g3, (g4 _ (at_ne h.r1 he dg_ne.2.1)).trans h.r1, (g4 _ (Ne.symm hz)).trans h.r2, h.lt⟩, set_twoG he u v, fun sl ps hp => hp.far fun g c hg => (g4 _ (at_ne hg he dg_ne.2.2.2.2.2.2.2)).trans hg⟩
/-- .. with a graph in the making. -/
structure DgG (w : World) (z1 z2 gb N : Nat) (A : List Arc3) (ao : Option Addr) (ac : Nat) (W : World) : Prop where
  st : DgS w z1 z2 W
  gbx : W.heap[gb]? = some (.cells #[.int .i64 (N : Int), .slice ao A.length ac] 24)
  own : W.ownsRow w.heap.size 42 3 (.slice ao A.length ac) A.length (acs A)
  gl : w.heap.size ≤ gb ∧ gb ≠ z1
theorem DgG.bel (h : DgG w z1 z2 gb N A ao ac W) : Below w.heap.size w W := h.st.bel
theorem DgG.up (h : DgG w z1 z2 gb N A ao ac W) (hb : Below W.heap.size W Y) : DgG w z1 z2 gb N A ao ac Y :=
  ⟨h.st.up hb, (hb.block _ (Array.getElem?_eq_some_iff.1 h.gbx).1).trans h.gbx, aown_keep h.own fun _ _ hh => (hb.block _ (Array.getElem?_eq_some_iff.1 hh).1).trans hh, h.gl⟩
theorem DgG.gcl (h : DgG w z1 z2 gb N A ao ac Y) : Y.cell? ⟨gb, 0, none⟩ = some (.int .i64 (N : Int)) ∧ Y.cell? ⟨gb, 1, none⟩ = some (.slice ao A.length ac) ∧ Y.frozen? ⟨gb, 0, none⟩ = false ∧ Y.frozen? ⟨gb, 1, none⟩ = false ∧ gb < Y.heap.size := by
  have h1 := h.gbx
  exact ⟨by simp [World.cell?, h1], by simp [World.cell?, h1], by simp [World.frozen?, h1], by simp [World.frozen?, h1], (Array.getElem?_eq_some_iff.1 h1).1⟩
/-- an arc more. -/
theorem DgG.grow {w5 : World} {po : Option Addr} {pc : Nat} {a : Arc3} (h : DgG w z1 z2 gb N A ao ac Y) (ho : w5.ownsRow w.heap.size 42 3 (.slice po (A.length + 1) pc) (A.length + 1) (acs A ++ acs [a])) (hg : Y.grownBy w5 (Value.slice ao A.length ac).ownBlock) :
    w5.heap[gb]? = some (.cells #[.int .i64 (N : Int), .slice ao A.length ac] 24) ∧ DgG w z1 z2 gb N (A ++ [a]) po pc (w5.setCell ⟨gb, 1, none⟩ (.slice po (A.length + 1) pc)) := by
  have far : ∀ {j : Nat} {c : Array Value} {T : TypeId}, T ≠ 42 → Y.heap[j]? = some (.cells c T) → w5.heap[j]? = some (.cells c T) := fun {j c T} hT hj => by
    refine (hg.block _ (Array.getElem?_eq_some_iff.1 hj).1 (fun e => ?_)).trans hj
    rcases h.own.2 with ⟨e2, _⟩ | ⟨g, cap, c2, e2, _, hh, _⟩
    · rw [e2] at e; cases e
    · rw [e2] at e
      have e3 : j = g := Option.some.inj e
      exact at_ne hj hh hT e3
  have hgb := far dg_ne.2.2.2.2.2.1 h.gbx
  have fs : ∀ j, j ≠ gb → (w5.setCell ⟨gb, 1, none⟩ (.slice po (A.length + 1) pc)).heap[j]? = w5.heap[j]? := fun j hj => Below.heap_setCell _ _ _ _ (by exact hj)
  have sz : (w5.setCell ⟨gb, 1, none⟩ (.slice po (A.length + 1) pc)).heap.size = w5.heap.size := by simp [World.setCell]
  have hb5 : Below w.heap.size w w5 := ⟨hg.os.trans h.bel.os, hg.tape.trans h.bel.tape, hg.output.trans h.bel.output, Nat.le_trans h.bel.size hg.size, fun j hj => (hg.block j (Nat.lt_of_lt_of_le hj h.bel.size) (fun e => by have := (h.own.lt j e.symm).1; omega)).trans (h.bel.block j hj)⟩
  refine ⟨hgb, ⟨⟨hb5.os, hb5.tape, hb5.output, by rw [sz]; exact hb5.size, fun j hj => (fs j (by have := h.gl.1; omega)).trans (hb5.block j hj)⟩, (fs _ (Ne.symm h.gl.2)).trans (far dg_ne.2.2.2.2.2.1 h.st.r1), (fs _ (at_ne h.st.r2 h.gbx dg_ne.1)).trans (far dg_ne.2.2.2.2.2.2.1 h.st.r2), h.st.lt⟩, ?_, ?_, h.gl⟩
  · rw [List.length_append]
    exact set_oneG hgb _
  · rw [acs_append, List.length_append]
    exact aown_keep ho fun k cur hh => (fs k (at_ne hh hgb dg_ne.2.2.2.1)).trans hh
theorem dg_good {R : List Row} (h : DgG w z1 z2 gb N A ao ac Y) (hR : gR R = ((0, 0), N, A)) : DgA R w (.returned (.tuple #[.agg #[.int .i64 (N : Int), .slice ao A.length ac], .agg #[.int .i64 0, .slice none 0 0]])) ((((Y.setCell ⟨z1, 0, none⟩ (.int .i64 (N : Int))).setCell ⟨z1, 1, none⟩ (.slice ao A.length ac)).setCell ⟨z2, 0, none⟩ (.int .i64 0)).setCell ⟨z2, 1, none⟩ (.slice none 0 0)) := by
  obtain ⟨g1, g2⟩ := set_far h.bel h.st.lt.1 (.int .i64 (N : Int)) (.slice ao A.length ac)
  obtain ⟨g3, g4⟩ := set_far g1 h.st.lt.2 (.int .i64 0) (.slice none 0 0)
  have e : gE R = (0, []) := by unfold gE; rw [hR]; rfl
  refine ⟨_, ao, ac, by rw [hR], by rw [e]; exact ⟨none, 0, rfl, places_nil _⟩, ?_, g3⟩
  rw [hR]
  exact aown_keep h.own fun k cur hh => (g4 k (at_ne hh h.st.r2 dg_ne.2.2.2.2.1)).trans ((g2 k (at_ne hh h.st.r1 dg_ne.2.2.2.1)).trans hh)
end
theorem rE_at {R : List Row} {k : Nat} {r : Row} (h : R[k]? = some r) (word : By) (B : List (Nat × Int)) : rE R k word B = rowE r.2 word B ∧ lnE R k = r.1 ∧ lnK R (k + 1) = r.1 := by
  have hl := (List.getElem?_eq_some_iff.1 h).1
  have e : lnK R (k + 1) = r.1 := by show (R.getD k (0, [])).1 = r.1; rw [List.getD_eq_getElem?_getD, h]; rfl
  refine ⟨by unfold rE; rw [h], ?_, e⟩
  unfold lnE
  rw [if_pos hl, e]
theorem rE_no {R : List Row} {k : Nat} (h : k = R.length) (word : By) (B : List (Nat × Int)) : rE R k word B = 5 ∧ lnE R k = lnK R R.length := by
  refine ⟨by unfold rE; rw [List.getElem?_eq_none (by omega)], ?_⟩
  unfold lnE
  rw [if_neg (by omega), h]
theorem gR_head {R : List Row} {c : Int} (h : rE R 0 gwd bG = c) (hc : c ≠ 0) : gR R = ((c, lnE R 0), 0, []) := by unfold gR; rw [if_pos (by rw [h]; exact hc), h]
theorem gR_rest {R : List Row} {N m : Nat} (h : rE R 0 gwd bG = 0) (hN : val (wdK R 0 1) = N) (hm : val (wdK R 0 2) = m) : gR R = if (gF R N m 1 []).1.1 = 0 then ((0, 0), N, (gF R N m 1 []).2) else ((gF R N m 1 []).1, 0, []) := by unfold gR; rw [if_neg (by rw [h]; decide), hN, hm]
theorem head_row {ws : List By} {v1 v2 : By} (h : fmE ws gwd 3 = 0) (h1 : ws[1]? = some v1) (h2 : ws[2]? = some v2) : rowE ws gwd bG = if bnE v1 65537 9 = 0 then (if bnE v2 262145 9 = 0 then 0 else bnE v2 262145 9) else bnE v1 65537 9 := by
  have hl := fm_len h
  rw [row_fm, show 1 + bG.length = 3 from rfl, if_pos h]
  match ws, hl, h1, h2 with
  | [a, b, c], _, h1, h2 =>
    simp at h1 h2
    subst h1 h2
    rfl
theorem end_row (ws : List By) : rowE ws ewd [] = fmE ws ewd 1 := by
  rw [row_fm]
  split
  · rename_i h
    rw [show 1 + ([] : List (Nat × Int)).length = 1 from rfl] at h
    rw [h]
    cases ws.drop 1 <;> rfl
  · rfl
/-- a stop ahead of a builtin. -/
def StopG (p : Prop) : Prop := p
theorem stopG {p : Prop} (h : StopG p) : p := h
theorem bs_gwd : bs ⟨#[103, 114, 97, 112, 104]⟩ = gwd := rfl
theorem bs_ewd : bs ⟨#[101, 110, 100]⟩ = ewd := rfl
theorem bnV_lt {v : By} {below : Nat} {er : Int} (h : bnE v below er = 0) (her : er ≠ 0) : bnV v below er = (val v : Int) ∧ val v < below := by
  refine ⟨by unfold bnV; rw [if_pos h], ?_⟩
  unfold bnE at h
  split at h
  · split at h
    · assumption
    · exact absurd h her
  · cases h

set_option maxRecDepth 100000 in
set_option maxHeartbeats 8000000 in
theorem docGraph_calls (w : World) (B rc : Nat) (ro : Option Addr) (Q : List Rr) (hO : w.ownsRow B 103 2 (.slice ro Q.length rc) Q.length (rcsR Q)) (hw : ∀ q ∈ Q, StR w q) (hf : ∀ q ∈ Q, FewR q) (hQ : Q.length ≤ 1048577) :
    Calls Tryd.prog 28 #[.slice ro Q.length rc] w (DgA (Q.map rowOfR) w) := by
  obtain ⟨z1, hz1⟩ : ∃ z1, w.heap.size = z1 := ⟨_, rfl⟩
  obtain ⟨z2, hz2⟩ : ∃ z2, z1 + 1 = z2 := ⟨_, rfl⟩
  obtain ⟨W1, hW1⟩ : ∃ W1, (w.alloc (.cells #[.int .i64 0, .slice none 0 0] 24)).alloc (.cells #[.int .i64 0, .slice none 0 0] 35) = W1 := ⟨_, rfl⟩
  have HW1 : Hid ((w.alloc (.cells #[.int .i64 0, .slice none 0 0] 24)).alloc (.cells #[.int .i64 0, .slice none 0 0] 35) = W1) := hW1
  have hb1 : Below w.heap.size w W1 := by rw [← hW1]; exact ((Below.refl _ _).alloc (Nat.le_refl _) _).alloc (by simp) _
  have HA1 : Hid (DgS w z1 z2 W1) := by
    refine ⟨hb1, ?_, ?_, by omega, by omega⟩
    · rw [← hW1, ← hz1]; exact (Below.heap_alloc _ _ _ (by simp)).trans (heap_newG _ _)
    · have g := heap_newG (w.alloc (.cells #[.int .i64 0, .slice none 0 0] 24)) (.cells #[.int .i64 0, .slice none 0 0] 35)
      rw [World.size_alloc, hz1, hz2, hW1] at g
      exact g
  obtain ⟨R, hR⟩ : ∃ R, Q.map rowOfR = R := ⟨_, rfl⟩
  have HR : Hid (Q.map rowOfR = R) := hR
  have HRL : Hid (R.length = Q.length) := by show _ = _; rw [← hR, List.length_map]
  have HRG : Hid (∀ (k : Nat) (q : Rr), Q[k]? = some q → R[k]? = some (rowOfR q)) := fun k q hq => by rw [← hR, List.getElem?_map, hq]; rfl
  have HROWS : Hid (∀ W, Below w.heap.size w W → W.ownsRow B 103 2 (.slice ro Q.length rc) Q.length (rcsR Q)) := fun W hb => rownR_keep hO fun _ _ hh => (hb.block _ (Array.getElem?_eq_some_iff.1 hh).1).trans hh
  have HST : Hid (∀ W, Below w.heap.size w W → ∀ (k : Nat) (q : Rr), Q[k]? = some q → StR W q ∧ FewR q) := fun W hb k q hq => ⟨⟨(hw q (List.mem_of_getElem? hq)).1.keep hb, (hw q (List.mem_of_getElem? hq)).2⟩, hf q (List.mem_of_getElem? hq)⟩
  rw [hR]
  clear hR hW1 hb1 hw hf
  rcases Nat.eq_zero_or_pos Q.length with h0 | h0
  · have HG : Hid (gR R = ((5, lnK R Q.length), 0, []) ∧ (5 : Int) ≠ 0) := by
      obtain ⟨r1, r2⟩ := rE_no (R := R) (k := 0) (by rw [HRL.out, h0]) gwd bG
      exact ⟨by rw [gR_head r1 (by decide), r2, HRL.out], by decide⟩
    have i0 : ((Q.length : Int) == 0) = true := beq_iff_eq.2 (by omega)
    clear h0 hO
    go_enter Tryd.func28, Tryd.ntmps28
    go_upto_region 1 with fail
    rw [HW1.out]
    try rw [hz1, hz2]
    have HLK : Hid (Calls Tryd.prog 39 #[.slice (ro) Q.length rc] W1 _) := lacks_calls W1 B rc (ro) Q (HROWS.out W1 (HA1.out).bel) hQ
    go_wp2_with fail
    refine HLK.out.mono ?_
    rintro e9 xL ⟨v, rfl, ⟨lo, l2, rfl, hp⟩, hxL⟩
    have AxL : Hid (DgS w z1 z2 xL ∧ RefPl xL (.slice lo 1 l2) [(1, (lnK R Q.length : Int))]) := ⟨(HA1.out).up hxL, by rw [HR.out] at hp; exact hp⟩
    clear hp hxL HLK
    obtain ⟨y0, y1, y3, y4, g0, g1, g3, g4⟩ := AxL.out.1.cl
    obtain ⟨q1, q2⟩ := AxL.out.1.ne
    go_wp2
    have gF := dg_fin1 AxL.out.1 (.int .i64 0) (.slice none 0 0) (.int .i64 5) (.slice lo 1 l2) AxL.out.2
    refine bodyPost_ret (dg_res (z1 := z1) (z2 := z2) (a := (.int .i64 0)) (b := (.slice none 0 0)) (x0 := (.int .i64 5)) (x1 := (.slice lo 1 l2)) (by with_reducible exact gF.1) (by with_reducible exact gF.2.1) rfl rfl) rfl ?_
    exact dg_bad HG.out.1 HG.out.2 gF.2.2.2 gF.2.2.1
  · have i0 : ((Q.length : Int) == 0) = false := beq_eq_false_iff_ne.2 (by omega)
    obtain ⟨q0, hq0⟩ : ∃ q, Q[0]? = some q := ⟨_, List.getElem?_eq_getElem h0⟩
    obtain ⟨g, rfl, hgl, hrc, _, _⟩ := rowR_cells hO hq0
    have HGL : Hid (g < w.heap.size) := hgl
    have HCE : Hid (∀ W, Below w.heap.size w W → ∀ (k : Nat) (q : Rr), Q[k]? = some q → W.cell? ⟨g, k * 2, none⟩ = some (.int .i64 (q.1 : Int)) ∧ W.cell? ⟨g, k * 2 + 1, none⟩ = some (.slice (some ⟨q.2.1, 0, none⟩) q.2.2.2.length q.2.2.1) ∧ g < W.heap.size) := fun W hb k q hq => by
      obtain ⟨g', e, hg', _, k0, k1⟩ := rowR_cells (HROWS.out W hb) hq
      cases e
      exact ⟨k0, k1, hg'⟩
    obtain ⟨ln, A0, lc, X⟩ := q0
    have HQ0 : Hid (Q[0]? = some (ln, A0, lc, X)) := hq0
    have HR0 : Hid (R[0]? = some (ln, X.map bs)) := HRG.out 0 _ hq0
    obtain ⟨d0, d1, dl⟩ := HCE.out W1 HA1.out.bel 0 _ hq0
    rw [Nat.zero_mul] at d0 d1
    have j0 : (0 : Int) < (Q.length : Int) := by omega
    have HFM := form_calls W1 ln A0 lc X ⟨#[103, 114, 97, 112, 104]⟩ 3 (HST.out W1 HA1.out.bel 0 _ hq0).1 (HST.out W1 HA1.out.bel 0 _ hq0).2
    rw [bs_gwd] at HFM
    have HF : Hid (Calls Tryd.prog 40 #[.agg #[.int .i64 (ln : Int), .slice (some ⟨A0, 0, none⟩) X.length lc], .string ⟨#[103, 114, 97, 112, 104]⟩, .int .i64 3] W1 (FoA (X.map bs) gwd 3 ln W1)) := HFM
    have HLN : Hid (∀ c : Int, c ≠ 0 → rowE (X.map bs) gwd bG = c → gR R = ((c, ln), 0, []) ∧ c ≠ 0) := fun c hc hr => by
      obtain ⟨r1, r2, _⟩ := rE_at HR0.out gwd bG
      exact ⟨by rw [gR_head (r1.trans hr) hc, r2], hc⟩
    clear HFM hO hgl hrc hq0
    go_enter Tryd.func28, Tryd.ntmps28
    go_upto_region 1 with fail
    rw [HW1.out]
    try rw [hz1, hz2]
    go_wp2_with fail
    refine HF.out.mono ?_
    rintro e x1 ⟨v, rfl, hv, hx1⟩
    have HLT : Hid (z2 < W1.heap.size) := (Array.getElem?_eq_some_iff.1 HA1.out.r2).1
    have HX1 : Hid (DgS w z1 z2 x1 ∧ z2 < x1.heap.size) := ⟨HA1.out.up hx1, Nat.lt_of_lt_of_le HLT.out hx1.size⟩
    clear HW1 HF d0 d1 dl hx1 HLT
    rcases foE_split hv with ⟨hfm, lo, l2, rfl⟩ | ⟨c, lo, l2, hfm, hc, rfl, hp⟩
    · have HFM : Hid (fmE (X.map bs) gwd 3 = 0) := hfm
      clear hv hfm
      obtain ⟨eb, heb⟩ : ∃ eb, x1.heap.size = eb := ⟨_, rfl⟩
      obtain ⟨W2, hW2⟩ : ∃ W2, x1.alloc (.cells #[.int .i64 0, .slice lo 0 l2] 35) = W2 := ⟨_, rfl⟩
      have HW2 : Hid (x1.alloc (.cells #[.int .i64 0, .slice lo 0 l2] 35) = W2) := hW2
      have bW2 : Below x1.heap.size x1 W2 := by rw [← hW2]; exact (Below.refl _ _).alloc (Nat.le_refl _) _
      have mW2 : W2.heap[eb]? = some (.cells #[.int .i64 0, .slice lo 0 l2] 35) := by rw [← hW2, ← heb]; exact heap_newG _ _
      have AW2 : Hid (DgS w z1 z2 W2 ∧ W2.heap[eb]? = some (.cells #[.int .i64 0, .slice lo 0 l2] 35) ∧ w.heap.size ≤ eb ∧ Below x1.heap.size x1 W2) := ⟨HX1.out.1.up bW2, mW2, by have := HX1.out.1.bel.size; omega, bW2⟩
      have e0 : W2.cell? ⟨eb, 0, none⟩ = some (.int .i64 0) := by simp [World.cell?, mW2]
      have e1 : W2.cell? ⟨eb, 1, none⟩ = some (.slice lo 0 l2) := by simp [World.cell?, mW2]
      clear hW2 bW2 mW2
      have HL2 : Hid (z2 < W2.heap.size) := Nat.lt_of_lt_of_le HX1.out.2 AW2.out.2.2.2.size
      go_upto_region 4 with fail
      rw [HW2.out]
      try rw [heb]
      go_wp2_with fail
      refine (bad_calls 0 lo 0 l2 W2).mono ?_
      rintro e9 x3 ⟨rfl, hx3⟩
      have mx3 := (hx3.block _ (Array.getElem?_eq_some_iff.1 AW2.out.2.1).1).trans AW2.out.2.1
      have Ax3 : Hid (DgS w z1 z2 x3 ∧ x3.heap[eb]? = some (.cells #[.int .i64 0, .slice lo 0 l2] 35) ∧ w.heap.size ≤ eb ∧ Below W2.heap.size W2 x3) := ⟨AW2.out.1.up hx3, mx3, AW2.out.2.2.1, hx3⟩
      clear e0 e1
      have e0 : x3.cell? ⟨eb, 0, none⟩ = some (.int .i64 0) := by simp [World.cell?, mx3]
      have e1 : x3.cell? ⟨eb, 1, none⟩ = some (.slice lo 0 l2) := by simp [World.cell?, mx3]
      clear mx3 hx3
      have HL3 : Hid (z2 < x3.heap.size) := Nat.lt_of_lt_of_le HL2.out Ax3.out.2.2.2.size
      obtain ⟨d0, d1, dl⟩ := HCE.out x3 Ax3.out.1.bel 0 _ HQ0.out
      rw [Nat.zero_mul] at d0 d1
      have hxl : X.length = 3 := by have := fm_len HFM.out; rwa [List.length_map] at this
      obtain ⟨u1, hu1⟩ : ∃ u1, X[1]? = some u1 := ⟨_, List.getElem?_eq_getElem (by omega)⟩
      obtain ⟨u2, hu2⟩ : ∃ u2, X[2]? = some u2 := ⟨_, List.getElem?_eq_getElem (by omega)⟩
      have HU : Hid (X[1]? = some u1 ∧ X[2]? = some u2) := ⟨hu1, hu2⟩
      have HROW : Hid (rowE (X.map bs) gwd bG = if bnE (bs u1) 65537 9 = 0 then (if bnE (bs u2) 262145 9 = 0 then 0 else bnE (bs u2) 262145 9) else bnE (bs u1) 65537 9) := head_row HFM.out (by rw [List.getElem?_map, hu1]; rfl) (by rw [List.getElem?_map, hu2]; rfl)
      have HWD : Hid (wdK R 0 1 = bs u1 ∧ wdK R 0 2 = bs u2) := by
        have e : R.getD 0 (0, []) = (ln, X.map bs) := by rw [List.getD_eq_getElem?_getD, HR0.out]; rfl
        refine ⟨?_, ?_⟩
        · show ((R.getD 0 (0, [])).2).getD 1 [] = _
          rw [e, List.getD_eq_getElem?_getD, List.getElem?_map, hu1]
          rfl
        · show ((R.getD 0 (0, [])).2).getD 2 [] = _
          rw [e, List.getD_eq_getElem?_getD, List.getElem?_map, hu2]
          rfl
      have HS0 : Hid (∀ W, Below w.heap.size w W → StR W (ln, A0, lc, X) ∧ FewR (ln, A0, lc, X)) := fun W hb => HST.out W hb 0 _ HQ0.out
      have HN1 : Hid (Calls Tryd.prog 41 #[.agg #[.int .i64 (ln : Int), .slice (some ⟨A0, 0, none⟩) X.length lc], .int .i64 1, .int .u64 65536, .int .i64 9] x3 (NuA (bs u1) 65536 9 ln x3)) := rnum_calls x3 ln A0 lc X 1 65536 9 u1 (HS0.out x3 Ax3.out.1.bel).1 (HS0.out x3 Ax3.out.1.bel).2 HU.out.1 (by omega) (by decide)
      clear e0 e1 hu1 hu2 hxl
      go_wp2_with fail
      refine HN1.out.mono ?_
      rintro e9 x4 ⟨v, rfl, hv, hx4⟩
      have HX4 : Hid (DgS w z1 z2 x4 ∧ z2 < x4.heap.size) := ⟨Ax3.out.1.up hx4, Nat.lt_of_lt_of_le HL3.out hx4.size⟩
      have HBV : Hid (bnE (bs u1) (65536 + 1) 9 = 0 → bnV (bs u1) (65536 + 1) 9 = (val (bs u1) : Int) ∧ val (bs u1) < 65537) := fun q => bnV_lt q (by decide)
      obtain ⟨V1, hV1⟩ : ∃ V1, bnV (bs u1) (65536 + 1) 9 = V1 := ⟨_, rfl⟩
      rw [hV1] at HBV ⊢
      clear HN1 hx4 d0 d1 dl hV1
      rcases nuE_split hv with ⟨hb1, lp, l3, rfl⟩ | ⟨c, lp, l3, hb1, hc, rfl, hp⟩
      · obtain ⟨N, hN⟩ : ∃ N, val (bs u1) = N := ⟨_, rfl⟩
        obtain ⟨hv1, hv2⟩ := HBV.out hb1
        rw [hN] at hv1 hv2
        subst hv1
        have HB1 : Hid (bnE (bs u1) 65537 9 = 0 ∧ val (bs u1) = N ∧ N < 65537) := ⟨hb1, hN, hv2⟩
        clear hv hb1 HBV hN hv2
        obtain ⟨ec, hec⟩ : ∃ ec, x4.heap.size = ec := ⟨_, rfl⟩
        obtain ⟨W3, hW3⟩ : ∃ W3, x4.alloc (.cells #[.int .i64 0, .slice lp 0 l3] 35) = W3 := ⟨_, rfl⟩
        have HW3 : Hid (x4.alloc (.cells #[.int .i64 0, .slice lp 0 l3] 35) = W3) := hW3
        have bW3 : Below x4.heap.size x4 W3 := by rw [← hW3]; exact (Below.refl _ _).alloc (Nat.le_refl _) _
        have mW3 : W3.heap[ec]? = some (.cells #[.int .i64 0, .slice lp 0 l3] 35) := by rw [← hW3, ← hec]; exact heap_newG _ _
        have AW3 : Hid (DgS w z1 z2 W3 ∧ W3.heap[ec]? = some (.cells #[.int .i64 0, .slice lp 0 l3] 35) ∧ w.heap.size ≤ ec ∧ Below x4.heap.size x4 W3) := ⟨HX4.out.1.up bW3, mW3, by have := HX4.out.1.bel.size; omega, bW3⟩
        have e0 : W3.cell? ⟨ec, 0, none⟩ = some (.int .i64 0) := by simp [World.cell?, mW3]
        have e1 : W3.cell? ⟨ec, 1, none⟩ = some (.slice lp 0 l3) := by simp [World.cell?, mW3]
        clear hW3 bW3 mW3
        have HEC : Hid (ec ≠ z2) := by have := HX4.out.2; show ec ≠ z2; omega
        go_upto_region 7 with fail
        rw [HW3.out]
        try rw [hec]
        go_wp2_with fail
        refine (bad_calls 0 lp 0 l3 W3).mono ?_
        rintro e9 x5 ⟨rfl, hx5⟩
        have mx5 := (hx5.block _ (Array.getElem?_eq_some_iff.1 AW3.out.2.1).1).trans AW3.out.2.1
        have Ax5 : Hid (DgS w z1 z2 x5 ∧ x5.heap[ec]? = some (.cells #[.int .i64 0, .slice lp 0 l3] 35) ∧ w.heap.size ≤ ec ∧ Below W3.heap.size W3 x5) := ⟨AW3.out.1.up hx5, mx5, AW3.out.2.2.1, hx5⟩
        clear e0 e1
        have e0 : x5.cell? ⟨ec, 0, none⟩ = some (.int .i64 0) := by simp [World.cell?, mx5]
        have e1 : x5.cell? ⟨ec, 1, none⟩ = some (.slice lp 0 l3) := by simp [World.cell?, mx5]
        clear mx5 hx5
        obtain ⟨d0, d1, dl⟩ := HCE.out x5 Ax5.out.1.bel 0 _ HQ0.out
        rw [Nat.zero_mul] at d0 d1
        have HN2 : Hid (Calls Tryd.prog 41 #[.agg #[.int .i64 (ln : Int), .slice (some ⟨A0, 0, none⟩) X.length lc], .int .i64 2, .int .u64 262144, .int .i64 9] x5 (NuA (bs u2) 262144 9 ln x5)) := rnum_calls x5 ln A0 lc X 2 262144 9 u2 (HS0.out x5 Ax5.out.1.bel).1 (HS0.out x5 Ax5.out.1.bel).2 HU.out.2 (by omega) (by decide)
        go_wp2_with fail
        refine HN2.out.mono ?_
        rintro e9 x6 ⟨v, rfl, hv, hx6⟩
        have HBV : Hid (bnE (bs u2) (262144 + 1) 9 = 0 → bnV (bs u2) (262144 + 1) 9 = (val (bs u2) : Int) ∧ val (bs u2) < 262145) := fun q => bnV_lt q (by decide)
        obtain ⟨V2, hV2⟩ : ∃ V2, bnV (bs u2) (262144 + 1) 9 = V2 := ⟨_, rfl⟩
        rw [hV2] at HBV ⊢
        have m5 := (hx6.block _ (Array.getElem?_eq_some_iff.1 Ax5.out.2.1).1).trans Ax5.out.2.1
        have Ax6 : Hid (DgS w z1 z2 x6 ∧ x6.heap[ec]? = some (.cells #[.int .i64 0, .slice lp 0 l3] 35)) := ⟨Ax5.out.1.up hx6, m5⟩
        have t0 : x6.cell? ⟨ec, 0, none⟩ = some (.int .i64 0) := by simp [World.cell?, m5]
        have t1 : x6.cell? ⟨ec, 1, none⟩ = some (.slice lp 0 l3) := by simp [World.cell?, m5]
        have t2 : x6.frozen? ⟨ec, 0, none⟩ = false := by simp [World.frozen?, m5]
        have t3 : x6.frozen? ⟨ec, 1, none⟩ = false := by simp [World.frozen?, m5]
        clear HN2 hx6 d0 d1 dl hV2 m5 e0 e1
        rcases nuE_split hv with ⟨hb1, lq, l4, rfl⟩ | ⟨c, lq, l4, hb1, hc, rfl, hp⟩
        · obtain ⟨m, hm⟩ : ∃ m, val (bs u2) = m := ⟨_, rfl⟩
          obtain ⟨hv1, hv2⟩ := HBV.out hb1
          rw [hm] at hv1 hv2
          subst hv1
          have HB2 : Hid (bnE (bs u2) 262145 9 = 0 ∧ val (bs u2) = m ∧ m < 262145) := ⟨hb1, hm, hv2⟩
          clear hv hb1 HBV hm hv2
          obtain ⟨W4, hW4⟩ : ∃ W4, (x6.setCell ⟨ec, 0, none⟩ (.int .i64 0)).setCell ⟨ec, 1, none⟩ (.slice lq 0 l4) = W4 := ⟨_, rfl⟩
          have S5 := Ax6.out.1.setE Ax6.out.2 HEC.out AW3.out.2.2.1 (.int .i64 0) (.slice lq 0 l4)
          rw [hW4] at S5
          have AW4 : Hid (DgS w z1 z2 W4 ∧ W4.heap[ec]? = some (.cells #[.int .i64 0, .slice lq 0 l4] 35) ∧ w.heap.size ≤ ec ∧ (∀ sl ps, RefPl x6 sl ps → RefPl W4 sl ps)) := ⟨S5.1, S5.2.1, AW3.out.2.2.1, S5.2.2⟩
          have e0 : W4.cell? ⟨ec, 0, none⟩ = some (.int .i64 0) := by have := S5.2.1; simp [World.cell?, this]
          have e1 : W4.cell? ⟨ec, 1, none⟩ = some (.slice lq 0 l4) := by have := S5.2.1; simp [World.cell?, this]
          clear S5
          go_wp2_with fail
          refine (bad_calls 0 lq 0 l4 W4).mono ?_
          rintro e9 x7 ⟨rfl, hx7⟩
          have mx7 := (hx7.block _ (Array.getElem?_eq_some_iff.1 AW4.out.2.1).1).trans AW4.out.2.1
          have Ax7 : Hid (DgS w z1 z2 x7 ∧ x7.heap[ec]? = some (.cells #[.int .i64 0, .slice lq 0 l4] 35) ∧ w.heap.size ≤ ec ∧ Below W4.heap.size W4 x7) := ⟨AW4.out.1.up hx7, mx7, AW4.out.2.2.1, hx7⟩
          clear e0 e1
          have e0 : x7.cell? ⟨ec, 0, none⟩ = some (.int .i64 0) := by simp [World.cell?, mx7]
          have e1 : x7.cell? ⟨ec, 1, none⟩ = some (.slice lq 0 l4) := by simp [World.cell?, mx7]
          clear mx7 hx7
          clear hW4 t0 t1 t2 t3 e0 e1
          obtain ⟨gb, hgb⟩ : ∃ gb, x7.heap.size = gb := ⟨_, rfl⟩
          obtain ⟨W5, hW5⟩ : ∃ W5, x7.alloc (.cells #[.int .i64 (N : Int), .slice none 0 0] 24) = W5 := ⟨_, rfl⟩
          have HW5 : Hid (x7.alloc (.cells #[.int .i64 (N : Int), .slice none 0 0] 24) = W5) := hW5
          have b5 : Below x7.heap.size x7 W5 := by rw [← hW5]; exact (Below.refl _ _).alloc (Nat.le_refl _) _
          have G5 : Hid (DgG w z1 z2 gb N [] none 0 W5) := ⟨Ax7.out.1.up b5, by rw [← hW5, ← hgb]; exact heap_newG _ _, World.ownsRow_nil _ _ _ _, by rw [← hgb]; exact Ax7.out.1.bel.size, by have := (Array.getElem?_eq_some_iff.1 Ax7.out.1.r1).1; omega⟩
          have HGR : Hid (gR R = if (gF R N m 1 []).1.1 = 0 then ((0, 0), N, (gF R N m 1 []).2) else ((gF R N m 1 []).1, 0, [])) := gR_rest (by obtain ⟨r1, _, _⟩ := rE_at HR0.out gwd bG; rw [r1]; exact HROW.out.trans (by rw [if_pos HB1.out.1, if_pos HB2.out.1])) (by rw [HWD.out.1]; exact HB1.out.2.1) (by rw [HWD.out.2]; exact HB2.out.2.1)
          have hN5 : N < 65537 := HB1.out.2.2
          have hm5 : m < 262145 := HB2.out.2.2
          obtain ⟨FF, hFF⟩ : ∃ FF, gF R N m 1 [] = FF := ⟨_, rfl⟩
          have HF0 : Hid (gF R N m 1 [] = FF) := hFF
          rw [hFF] at HGR
          obtain ⟨i0', hi9, hzz⟩ := Option.map_eq_some_iff.1 infoArc
          simp only [Prod.mk.injEq] at hzz
          have HI0 : Hid (Tryd.prog.info? 42 = some i0' ∧ i0'.zero = some (.agg #[.int .i64 0, .int .i64 0, .int .i64 0]) ∧ i0'.size = 3 ∧ i0'.bytes = 24) := ⟨hi9, hzz⟩
          clear hW5 b5 hFF hi9 hzz
          go_upto_region 13 with fail
          rw [HW5.out]
          try rw [hgb]
          go_wp2_with fail
          go_loopw [9] (fun iv wr => ∃ i : Nat, 1 ≤ i ∧ i ≤ m + 1 ∧ i ≤ Q.length ∧ iv = .int .i64 i ∧ Hid (∃ (ao : Option Addr) (ac : Nat) (A : List Arc3), DgG w z1 z2 gb N A ao ac wr ∧ A.length + 1 = i ∧ gF R N (m + 1 - i) i A = FF)) (fun iv _ => m + 1 - (intOf iv).toNat)
          case atStart => exact ⟨1, Nat.le_refl _, by omega, by omega, rfl, none, 0, [], G5.out, rfl, HF0.out⟩
          case round =>
            obtain ⟨i, hi1, hi2, hi3, rfl, HI⟩ := hrel
            obtain ⟨ao, ac, A, hG, hA, hFe⟩ := HI.out
            have HA : Hid (A.length + 1 = i) := hA
            have HFE : Hid (gF R N (m + 1 - i) i A = FF) := hFe
            have AG : Hid (DgG w z1 z2 gb N A ao ac wr) := hG
            clear HI hA hFe hG
            rcases (show i ≤ m ∨ i = m + 1 by omega) with h1 | h1
            · have j3 : decide ((i : Int) ≤ (m : Int)) = true := by simp; omega
              obtain ⟨m', hm'⟩ : ∃ m', m + 1 - i = m' + 1 := ⟨m + 1 - i - 1, by omega⟩
              rcases (show i = Q.length ∨ i < Q.length by omega) with h2 | h2
              · have j4 : decide ((i : Int) ≥ (Q.length : Int)) = true := by simp; omega
                have HG : Hid (gR R = ((5, lnK R Q.length), 0, []) ∧ (5 : Int) ≠ 0) := by
                  obtain ⟨r1, r2⟩ := rE_no (R := R) (k := i) (by rw [HRL.out, h2]) awd (bA N)
                  have e3 : FF = ((5, lnK R Q.length), []) := by rw [← HFE.out, hm', gF, if_pos (by rw [r1]; decide), r1, r2, HRL.out]
                  exact ⟨by rw [HGR.out, e3]; rfl, by decide⟩
                have j5 : Q.length ≤ i := by omega
                clear hm' h2
                have HLK : Hid (Calls Tryd.prog 39 #[.slice (some ⟨g, 0, none⟩) Q.length rc] wr _) := lacks_calls wr B rc (some ⟨g, 0, none⟩) Q (HROWS.out wr (AG.out.st).bel) hQ
                go_wp2_with fail
                refine HLK.out.mono ?_
                rintro e9 xL ⟨v, rfl, ⟨lo, l2, rfl, hp⟩, hxL⟩
                have AxL : Hid (DgS w z1 z2 xL ∧ RefPl xL (.slice lo 1 l2) [(1, (lnK R Q.length : Int))]) := ⟨(AG.out.st).up hxL, by rw [HR.out] at hp; exact hp⟩
                clear hp hxL HLK
                obtain ⟨y0, y1, y3, y4, g0, g1, g3, g4⟩ := AxL.out.1.cl
                obtain ⟨q1, q2⟩ := AxL.out.1.ne
                go_wp2
                have gF := dg_fin1 AxL.out.1 (.int .i64 0) (.slice none 0 0) (.int .i64 5) (.slice lo 1 l2) AxL.out.2
                refine bodyPost_ret (dg_res (z1 := z1) (z2 := z2) (a := (.int .i64 0)) (b := (.slice none 0 0)) (x0 := (.int .i64 5)) (x1 := (.slice lo 1 l2)) (by with_reducible exact gF.1) (by with_reducible exact gF.2.1) rfl rfl) rfl ?_
                exact dg_bad HG.out.1 HG.out.2 gF.2.2.2 gF.2.2.1
              · have j4 : decide ((i : Int) ≥ (Q.length : Int)) = false := by simp; omega
                obtain ⟨⟨ln2, A2, lc2, X2⟩, hq⟩ : ∃ q, Q[i]? = some q := ⟨_, List.getElem?_eq_getElem h2⟩
                obtain ⟨d0, d1, dl⟩ := HCE.out wr AG.out.bel i _ hq
                have HS2 := HST.out wr AG.out.bel i _ hq
                have HAC : Hid (Calls Tryd.prog 42 #[.agg #[.int .i64 (ln2 : Int), .slice (some ⟨A2, 0, none⟩) X2.length lc2], .int .i64 (N : Int)] wr (AcA (X2.map bs) N ln2 wr)) := arc_calls wr ln2 A2 lc2 X2 N HS2.1 HS2.2 (by omega)
                have HRA : Hid (rE R i awd (bA N) = rowE (X2.map bs) awd (bA N) ∧ lnE R i = ln2 ∧ arcK R i = ((val ((X2.map bs).getD 1 []) : Int), (val ((X2.map bs).getD 2 []) : Int), (val ((X2.map bs).getD 3 []) : Int))) := by
                  have hr := HRG.out i _ hq
                  obtain ⟨r1, r2, _⟩ := rE_at hr awd (bA N)
                  refine ⟨r1, r2, ?_⟩
                  have e : R.getD i (0, []) = rowOfR (ln2, A2, lc2, X2) := by rw [List.getD_eq_getElem?_getD, hr]; rfl
                  unfold arcK wdK
                  rw [e]
                  rfl
                have j5 : (0 : Int) ≤ (i : Int) := by omega
                have j7 : ¬ Q.length ≤ i := by omega
                have j6 : (i : Int) < (Q.length : Int) := by omega
                clear HS2 hq
                go_wp2_with fail
                refine HAC.out.mono ?_
                rintro e9 x8 ⟨u, rfl, hu, hx8⟩
                obtain ⟨lo8, l8, rfl, hp8⟩ := hu
                have AX8 : Hid (DgG w z1 z2 gb N A ao ac x8) := AG.out.up hx8
                clear HAC hx8 d0 d1 dl
                by_cases hz : rowE (X2.map bs) awd (bA N) = 0
                · have e1 : aE (X2.map bs) N ln2 = (0, []) := by unfold aE; rw [if_pos hz]
                  have e2 : aV (X2.map bs) N = arcK R i := by unfold aV; rw [if_pos hz, HRA.out.2.2]
                  rw [e1, e2]
                  rw [e1] at hp8
                  have HFN : Hid (gF R N (m + 1 - (i + 1)) (i + 1) (A ++ [arcK R i]) = FF) := by
                    show _ = _
                    rw [← HFE.out, hm', gF, if_neg (by rw [HRA.out.1]; exact fun q => q hz), show m + 1 - (i + 1) = m' by omega]
                  obtain ⟨⟨a1, a2, a3⟩, ha⟩ : ∃ a, arcK R i = a := ⟨_, rfl⟩
                  rw [ha] at HFN ⊢
                  clear hp8 e1 e2 ha hz hm'
                  obtain ⟨ab, hab⟩ : ∃ ab, x8.heap.size = ab := ⟨_, rfl⟩
                  obtain ⟨W6, hW6⟩ : ∃ W6, x8.alloc (.cells #[.int .i64 a1, .int .i64 a2, .int .i64 a3] 42) = W6 := ⟨_, rfl⟩
                  have HW6 : Hid (x8.alloc (.cells #[.int .i64 a1, .int .i64 a2, .int .i64 a3] 42) = W6) := hW6
                  have b6 : Below x8.heap.size x8 W6 := by rw [← hW6]; exact (Below.refl _ _).alloc (Nat.le_refl _) _
                  have AW6 : Hid (DgG w z1 z2 gb N A ao ac W6 ∧ W6.heap[ab]? = some (.cells #[.int .i64 a1, .int .i64 a2, .int .i64 a3] 42) ∧ W6.heap.size = ab + 1 ∧ Below x8.heap.size x8 W6) := ⟨AX8.out.up b6, by rw [← hW6, ← hab]; exact heap_newG _ _, by rw [← hW6, World.size_alloc, hab], b6⟩
                  clear hW6 b6
                  obtain ⟨ed, hed⟩ : ∃ ed, W6.heap.size = ed := ⟨_, rfl⟩
                  obtain ⟨W7, hW7⟩ : ∃ W7, W6.alloc (.cells #[.int .i64 0, .slice lo8 0 l8] 35) = W7 := ⟨_, rfl⟩
                  have HW7 : Hid (W6.alloc (.cells #[.int .i64 0, .slice lo8 0 l8] 35) = W7) := hW7
                  have bW7 : Below W6.heap.size W6 W7 := by rw [← hW7]; exact (Below.refl _ _).alloc (Nat.le_refl _) _
                  have mW7 : W7.heap[ed]? = some (.cells #[.int .i64 0, .slice lo8 0 l8] 35) := by rw [← hW7, ← hed]; exact heap_newG _ _
                  have AW7 : Hid (DgG w z1 z2 gb N A ao ac W7 ∧ W7.heap[ed]? = some (.cells #[.int .i64 0, .slice lo8 0 l8] 35) ∧ w.heap.size ≤ ed ∧ Below W6.heap.size W6 W7) := ⟨AW6.out.1.up bW7, mW7, by have := AW6.out.1.bel.size; omega, bW7⟩
                  have e0 : W7.cell? ⟨ed, 0, none⟩ = some (.int .i64 0) := by simp [World.cell?, mW7]
                  have e1 : W7.cell? ⟨ed, 1, none⟩ = some (.slice lo8 0 l8) := by simp [World.cell?, mW7]
                  clear hW7 bW7 mW7
                  have hed2 : ab + 1 = ed := by rw [← hed]; exact AW6.out.2.2.1.symm
                  have HAB : Hid (x8.heap.size = ab ∧ ab + 1 = ed) := ⟨hab, hed2⟩
                  clear hab hed hed2
                  go_upto_region 19 with fail
                  rw [HW6.out, HW7.out]
                  try rw [HAB.out.1, HAB.out.2]
                  go_wp2_with fail
                  refine (bad_calls 0 lo8 0 l8 W7).mono ?_
                  rintro e9 x9 ⟨rfl, hx9⟩
                  have mx9 := (hx9.block _ (Array.getElem?_eq_some_iff.1 AW7.out.2.1).1).trans AW7.out.2.1
                  have Ax9 : Hid (DgG w z1 z2 gb N A ao ac x9 ∧ x9.heap[ed]? = some (.cells #[.int .i64 0, .slice lo8 0 l8] 35) ∧ w.heap.size ≤ ed ∧ Below W7.heap.size W7 x9) := ⟨AW7.out.1.up hx9, mx9, AW7.out.2.2.1, hx9⟩
                  clear e0 e1
                  have e0 : x9.cell? ⟨ed, 0, none⟩ = some (.int .i64 0) := by simp [World.cell?, mx9]
                  have e1 : x9.cell? ⟨ed, 1, none⟩ = some (.slice lo8 0 l8) := by simp [World.cell?, mx9]
                  clear mx9 hx9
                  have mab : x9.heap[ab]? = some (.cells #[.int .i64 a1, .int .i64 a2, .int .i64 a3] 42) := by
                    have h6 := AW6.out.2.1
                    have h7 := (AW7.out.2.2.2.block _ (Array.getElem?_eq_some_iff.1 h6).1).trans h6
                    exact (Ax9.out.2.2.2.block _ (Array.getElem?_eq_some_iff.1 h7).1).trans h7
                  have s0 : x9.cell? ⟨ab, 0, none⟩ = some (.int .i64 a1) := by simp [World.cell?, mab]
                  have s1 : x9.cell? ⟨ab, 1, none⟩ = some (.int .i64 a2) := by simp [World.cell?, mab]
                  have s2 : x9.cell? ⟨ab, 2, none⟩ = some (.int .i64 a3) := by simp [World.cell?, mab]
                  obtain ⟨b0, b1, bf0, bf1, bl⟩ := Ax9.out.1.gcl
                  have HLA : Hid (A.length + 1 ≤ 262145) := by have := HA.out; show A.length + 1 ≤ 262145; omega
                  clear mab e0 e1
                  go_wp2_with (at_builtin; refine stopG ?_)
                  unfold StopG
                  refine wpList_append_own _ rfl _ _ 22 rfl w.heap.size 42 i0' (.agg #[.int .i64 0, .int .i64 0, .int .i64 0]) 3 24 Tryd.underlying22 HI0.out.1 HI0.out.2.1 HI0.out.2.2.1 HI0.out.2.2.2 rfl (by decide) (.slice ao A.length ac) A.length (acs A) rfl (Ax9.out.1.up ((Below.refl _ x9).alloc (Nat.le_refl _) _)).own ⟨x9.heap.size, 0, none⟩ 1 1 (acs [(a1, a2, a3)]) rfl rfl (new_cellsG x9 (acs [(a1, a2, a3)]) 42) (acs_one _) (by have := HLA.out; unfold maxLen; omega) (by have := HLA.out; omega) (by have := Ax9.out.1.bel.size; simp; omega) ?_
                  intro v5 w5 hown5 hgr5 _
                  obtain ⟨po, pc, hv5⟩ := slice_ofG hown5
                  subst hv5
                  have H5 := (Ax9.out.1.up ((Below.refl _ x9).alloc (Nat.le_refl _) _)).grow hown5 hgr5
                  have H5D : Hid (DgG w z1 z2 gb N (A ++ [(a1, a2, a3)]) po pc (w5.setCell ⟨gb, 1, none⟩ (.slice po (A.length + 1) pc))) := H5.2
                  have c50 : w5.cell? ⟨gb, 0, none⟩ = some (.int .i64 (N : Int)) := by (have := H5.1; simp [World.cell?, this])
                  have c51 : w5.cell? ⟨gb, 1, none⟩ = some (.slice ao A.length ac) := by (have := H5.1; simp [World.cell?, this])
                  have c52 : w5.frozen? ⟨gb, 1, none⟩ = false := by (have := H5.1; simp [World.frozen?, this])
                  clear hown5 hgr5 H5
                  go_wp2_with fail
                  go_roundw
                  case rel => exact ⟨i + 1, by omega, by omega, by omega, by rw [show (i : Int) + 1 = ((i + 1 : Nat) : Int) by omega], po, pc, A ++ [(a1, a2, a3)], H5D.out, by rw [List.length_append]; have := HA.out; simp; omega, HFN.out⟩
                  case measure => simp only [intOf]; omega
                · have e1 : aE (X2.map bs) N ln2 = (rowE (X2.map bs) awd (bA N), [(1, (ln2 : Int))]) := by unfold aE; rw [if_neg hz]
                  have e2 : aV (X2.map bs) N = (0, 0, 0) := by unfold aV; rw [if_neg hz]
                  obtain ⟨c, hc⟩ : ∃ c, rowE (X2.map bs) awd (bA N) = c := ⟨_, rfl⟩
                  have HG : Hid (gR R = ((c, ln2), 0, []) ∧ c ≠ 0) := by
                    have e3 : FF = ((c, ln2), []) := by rw [← HFE.out, hm', gF, if_pos (by rw [HRA.out.1]; exact hz), HRA.out.1, HRA.out.2.1, hc]
                    exact ⟨by rw [HGR.out, e3, if_neg (by rw [← hc]; exact hz)], by rw [← hc]; exact hz⟩
                  rw [hc] at e1
                  rw [e1, e2]
                  rw [e1] at hp8
                  have HP : Hid (RefPl x8 (.slice lo8 1 l8) [(1, (ln2 : Int))]) := hp8
                  clear hp8 e1 e2 hc hz hm'
                  obtain ⟨ab, hab⟩ : ∃ ab, x8.heap.size = ab := ⟨_, rfl⟩
                  obtain ⟨W6, hW6⟩ : ∃ W6, x8.alloc (.cells #[.int .i64 0, .int .i64 0, .int .i64 0] 42) = W6 := ⟨_, rfl⟩
                  have HW6 : Hid (x8.alloc (.cells #[.int .i64 0, .int .i64 0, .int .i64 0] 42) = W6) := hW6
                  have b6 : Below x8.heap.size x8 W6 := by rw [← hW6]; exact (Below.refl _ _).alloc (Nat.le_refl _) _
                  have AW6 : Hid (DgG w z1 z2 gb N A ao ac W6 ∧ W6.heap[ab]? = some (.cells #[.int .i64 0, .int .i64 0, .int .i64 0] 42) ∧ W6.heap.size = ab + 1 ∧ Below x8.heap.size x8 W6) := ⟨AX8.out.up b6, by rw [← hW6, ← hab]; exact heap_newG _ _, by rw [← hW6, World.size_alloc, hab], b6⟩
                  clear hW6 b6
                  obtain ⟨ed, hed⟩ : ∃ ed, W6.heap.size = ed := ⟨_, rfl⟩
                  obtain ⟨W7, hW7⟩ : ∃ W7, W6.alloc (.cells #[.int .i64 c, .slice lo8 1 l8] 35) = W7 := ⟨_, rfl⟩
                  have HW7 : Hid (W6.alloc (.cells #[.int .i64 c, .slice lo8 1 l8] 35) = W7) := hW7
                  have bW7 : Below W6.heap.size W6 W7 := by rw [← hW7]; exact (Below.refl _ _).alloc (Nat.le_refl _) _
                  have mW7 : W7.heap[ed]? = some (.cells #[.int .i64 c, .slice lo8 1 l8] 35) := by rw [← hW7, ← hed]; exact heap_newG _ _
                  have AW7 : Hid (DgG w z1 z2 gb N A ao ac W7 ∧ W7.heap[ed]? = some (.cells #[.int .i64 c, .slice lo8 1 l8] 35) ∧ w.heap.size ≤ ed ∧ Below W6.heap.size W6 W7) := ⟨AW6.out.1.up bW7, mW7, by have := AW6.out.1.bel.size; omega, bW7⟩
                  have e0 : W7.cell? ⟨ed, 0, none⟩ = some (.int .i64 c) := by simp [World.cell?, mW7]
                  have e1 : W7.cell? ⟨ed, 1, none⟩ = some (.slice lo8 1 l8) := by simp [World.cell?, mW7]
                  clear hW7 bW7 mW7
                  have hed2 : ab + 1 = ed := by rw [← hed]; exact AW6.out.2.2.1.symm
                  have HAB : Hid (x8.heap.size = ab ∧ ab + 1 = ed) := ⟨hab, hed2⟩
                  clear hab hed hed2
                  go_upto_region 19 with fail
                  rw [HW6.out, HW7.out]
                  try rw [HAB.out.1, HAB.out.2]
                  go_wp2_with fail
                  refine (bad_calls c lo8 1 l8 W7).mono ?_
                  rintro e9 x9 ⟨rfl, hx9⟩
                  have mx9 := (hx9.block _ (Array.getElem?_eq_some_iff.1 AW7.out.2.1).1).trans AW7.out.2.1
                  have Ax9 : Hid (DgG w z1 z2 gb N A ao ac x9 ∧ x9.heap[ed]? = some (.cells #[.int .i64 c, .slice lo8 1 l8] 35) ∧ w.heap.size ≤ ed ∧ Below W7.heap.size W7 x9) := ⟨AW7.out.1.up hx9, mx9, AW7.out.2.2.1, hx9⟩
                  clear e0 e1
                  have e0 : x9.cell? ⟨ed, 0, none⟩ = some (.int .i64 c) := by simp [World.cell?, mx9]
                  have e1 : x9.cell? ⟨ed, 1, none⟩ = some (.slice lo8 1 l8) := by simp [World.cell?, mx9]
                  clear mx9 hx9
                  have HP3 : Hid (RefPl x9 (.slice lo8 1 l8) [(1, (ln2 : Int))]) := ((HP.out.keep AW6.out.2.2.2).keep AW7.out.2.2.2).keep Ax9.out.2.2.2
                  obtain ⟨y0, y1, y3, y4, g0, g1, g3, g4⟩ := Ax9.out.1.st.cl
                  obtain ⟨q1, q2⟩ := Ax9.out.1.st.ne
                  have k1 := at_ne Ax9.out.2.1 (Ax9.out.1.st).r1 dg_ne.1
                  have k2 := Ne.symm k1
                  go_upto_region 20 with fail
                  go_region
                  go_wp2
                  all_goals first
                   | (have gF := dg_fin1d Ax9.out.1.st (.int .i64 0) (.slice none 0 0) (.int .i64 c) (.slice lo8 1 l8) HP3.out
                      refine bodyPost_ret (dg_res (z1 := z1) (z2 := z2) (a := (.int .i64 0)) (b := (.slice none 0 0)) (x0 := (.int .i64 c)) (x1 := (.slice lo8 1 l8)) (by with_reducible exact gF.1) (by with_reducible exact gF.2.1) rfl rfl) rfl ?_
                      exact dg_bad HG.out.1 HG.out.2 gF.2.2.2 gF.2.2.1)
                   | (have gF := dg_fin2d Ax9.out.1.st (.int .i64 0) (.slice none 0 0) (.int .i64 c) (.slice lo8 1 l8) HP3.out
                      refine bodyPost_ret (dg_res (z1 := z1) (z2 := z2) (a := (.int .i64 0)) (b := (.slice none 0 0)) (x0 := (.int .i64 c)) (x1 := (.slice lo8 1 l8)) (by with_reducible exact gF.1) (by with_reducible exact gF.2.1) rfl rfl) rfl ?_
                      exact dg_bad HG.out.1 HG.out.2 gF.2.2.2 gF.2.2.1)
            · have j3 : decide ((i : Int) ≤ (m : Int)) = false := by simp; omega
              subst h1
              have HFE0 : Hid (gF R N 0 (m + 1) A = FF) := by have := HFE.out; rw [Nat.sub_self] at this; exact this
              clear HFE
              rcases (show m + 1 = Q.length ∨ m + 1 < Q.length by omega) with h2 | h2
              · have j4 : decide ((m : Int) + 1 ≥ (Q.length : Int)) = true := by simp; omega
                have HG : Hid (gR R = ((5, lnK R Q.length), 0, []) ∧ (5 : Int) ≠ 0) := by
                  obtain ⟨r1, r2⟩ := rE_no (R := R) (k := m + 1) (by rw [HRL.out, h2]) ewd []
                  have e3 : FF = ((5, lnK R Q.length), []) := by rw [← HFE0.out, gF, if_pos (by rw [r1]; decide), r1, r2, HRL.out]
                  exact ⟨by rw [HGR.out, e3]; rfl, by decide⟩
                have j5 : Q.length ≤ m + 1 := by omega
                clear h2
                have HLK : Hid (Calls Tryd.prog 39 #[.slice (some ⟨g, 0, none⟩) Q.length rc] wr _) := lacks_calls wr B rc (some ⟨g, 0, none⟩) Q (HROWS.out wr (AG.out.st).bel) hQ
                go_wp2_with fail
                refine HLK.out.mono ?_
                rintro e9 xL ⟨v, rfl, ⟨lo, l2, rfl, hp⟩, hxL⟩
                have AxL : Hid (DgS w z1 z2 xL ∧ RefPl xL (.slice lo 1 l2) [(1, (lnK R Q.length : Int))]) := ⟨(AG.out.st).up hxL, by rw [HR.out] at hp; exact hp⟩
                clear hp hxL HLK
                obtain ⟨y0, y1, y3, y4, g0, g1, g3, g4⟩ := AxL.out.1.cl
                obtain ⟨q1, q2⟩ := AxL.out.1.ne
                go_wp2
                have gF := dg_fin1 AxL.out.1 (.int .i64 0) (.slice none 0 0) (.int .i64 5) (.slice lo 1 l2) AxL.out.2
                refine bodyPost_ret (dg_res (z1 := z1) (z2 := z2) (a := (.int .i64 0)) (b := (.slice none 0 0)) (x0 := (.int .i64 5)) (x1 := (.slice lo 1 l2)) (by with_reducible exact gF.1) (by with_reducible exact gF.2.1) rfl rfl) rfl ?_
                exact dg_bad HG.out.1 HG.out.2 gF.2.2.2 gF.2.2.1
              · have j4 : decide ((m : Int) + 1 ≥ (Q.length : Int)) = false := by simp; omega
                have j5 : ¬ Q.length ≤ m + 1 := by omega
                obtain ⟨⟨ln2, A2, lc2, X2⟩, hq⟩ : ∃ q, Q[m + 1]? = some q := ⟨_, List.getElem?_eq_getElem h2⟩
                obtain ⟨d0, d1, dl⟩ := HCE.out wr AG.out.bel (m + 1) _ hq
                have HS2 := HST.out wr AG.out.bel (m + 1) _ hq
                have HFM2 := form_calls wr ln2 A2 lc2 X2 ⟨#[101, 110, 100]⟩ 1 HS2.1 HS2.2
                rw [bs_ewd] at HFM2
                have HFO : Hid (Calls Tryd.prog 40 #[.agg #[.int .i64 (ln2 : Int), .slice (some ⟨A2, 0, none⟩) X2.length lc2], .string ⟨#[101, 110, 100]⟩, .int .i64 1] wr (FoA (X2.map bs) ewd 1 ln2 wr)) := HFM2
                have HRA : Hid (rE R (m + 1) ewd [] = fmE (X2.map bs) ewd 1 ∧ lnE R (m + 1) = ln2) := by
                  obtain ⟨r1, r2, _⟩ := rE_at (HRG.out (m + 1) _ hq) ewd []
                  exact ⟨r1.trans (end_row _), r2⟩
                have j6 : (0 : Int) ≤ (m : Int) + 1 := by omega
                have j7 : (m : Int) + 1 < (Q.length : Int) := by omega
                have j8 : m + 1 < Q.length := h2
                clear HS2 hq HFM2
                go_wp2_with fail
                refine HFO.out.mono ?_
                rintro e9 x8 ⟨v, rfl, hv, hx8⟩
                have AX8 : Hid (DgG w z1 z2 gb N A ao ac x8) := AG.out.up hx8
                clear HFO hx8 d0 d1 dl
                rcases foE_split hv with ⟨hfm, lr, l5, rfl⟩ | ⟨c, lr, l5, hfm, hc, rfl, hp⟩
                · have HRZ : Hid (rE R (m + 1) ewd [] = 0) := HRA.out.1.trans hfm
                  clear hv hfm
                  obtain ⟨ed, hed⟩ : ∃ ed, x8.heap.size = ed := ⟨_, rfl⟩
                  obtain ⟨W7, hW7⟩ : ∃ W7, x8.alloc (.cells #[.int .i64 0, .slice lr 0 l5] 35) = W7 := ⟨_, rfl⟩
                  have HW7 : Hid (x8.alloc (.cells #[.int .i64 0, .slice lr 0 l5] 35) = W7) := hW7
                  have bW7 : Below x8.heap.size x8 W7 := by rw [← hW7]; exact (Below.refl _ _).alloc (Nat.le_refl _) _
                  have mW7 : W7.heap[ed]? = some (.cells #[.int .i64 0, .slice lr 0 l5] 35) := by rw [← hW7, ← hed]; exact heap_newG _ _
                  have AW7 : Hid (DgG w z1 z2 gb N A ao ac W7 ∧ W7.heap[ed]? = some (.cells #[.int .i64 0, .slice lr 0 l5] 35) ∧ w.heap.size ≤ ed ∧ Below x8.heap.size x8 W7) := ⟨AX8.out.up bW7, mW7, by have := AX8.out.bel.size; omega, bW7⟩
                  have e0 : W7.cell? ⟨ed, 0, none⟩ = some (.int .i64 0) := by simp [World.cell?, mW7]
                  have e1 : W7.cell? ⟨ed, 1, none⟩ = some (.slice lr 0 l5) := by simp [World.cell?, mW7]
                  clear hW7 bW7 mW7
                  go_upto_region 25 with fail
                  rw [HW7.out]
                  try rw [hed]
                  go_wp2_with fail
                  refine (bad_calls 0 lr 0 l5 W7).mono ?_
                  rintro e9 x9 ⟨rfl, hx9⟩
                  have mx9 := (hx9.block _ (Array.getElem?_eq_some_iff.1 AW7.out.2.1).1).trans AW7.out.2.1
                  have Ax9 : Hid (DgG w z1 z2 gb N A ao ac x9 ∧ x9.heap[ed]? = some (.cells #[.int .i64 0, .slice lr 0 l5] 35) ∧ w.heap.size ≤ ed ∧ Below W7.heap.size W7 x9) := ⟨AW7.out.1.up hx9, mx9, AW7.out.2.2.1, hx9⟩
                  clear e0 e1
                  have e0 : x9.cell? ⟨ed, 0, none⟩ = some (.int .i64 0) := by simp [World.cell?, mx9]
                  have e1 : x9.cell? ⟨ed, 1, none⟩ = some (.slice lr 0 l5) := by simp [World.cell?, mx9]
                  clear mx9 hx9
                  clear e0 e1
                  rcases (show m + 2 < Q.length ∨ Q.length = m + 2 by omega) with h3 | h3
                  · have j9 : decide ((m : Int) + 2 < (Q.length : Int)) = true := by simp; omega
                    have j10 : m + 2 < Q.length := h3
                    obtain ⟨q2, hq2⟩ : ∃ q, Q[m + 2]? = some q := ⟨_, List.getElem?_eq_getElem h3⟩
                    obtain ⟨M2, hM2⟩ : ∃ M2, m + 2 = M2 := ⟨_, rfl⟩
                    have HQ2 : Hid (Q[M2]? = some q2) := by rw [← hM2]; exact hq2
                    have jw : IntKind.i64.wrap ((m : Int) + 2) = (M2 : Int) := by rw [IntKind.wrap_i64] <;> omega
                    have j11 : (0 : Int) ≤ (M2 : Int) := by omega
                    have j12 : (M2 : Int) < (Q.length : Int) := by omega
                    have j13 : M2 < Q.length := by omega
                    have HG : Hid (gR R = ((6, q2.1), 0, []) ∧ (6 : Int) ≠ 0) := by
                      obtain ⟨_, _, r3⟩ := rE_at (HRG.out (m + 2) _ hq2) ewd []
                      have e3 : FF = ((6, q2.1), []) := by rw [← HFE0.out, gF, if_neg (by rw [HRZ.out]; decide), if_pos (by rw [HRL.out]; exact h3)]; exact congrArg (fun z => ((6, z), ([] : List Arc3))) r3
                      exact ⟨by rw [HGR.out, e3]; rfl, by decide⟩
                    have HSS : Hid (∀ Y, Below x9.heap.size x9 Y → Y.cell? ⟨g, M2 * 2, none⟩ = some (.int .i64 (q2.1 : Int)) ∧ Hid (Below w.heap.size w Y)) := fun Y hY => by
                      have a := Ax9.out.1.st.up hY
                      exact ⟨(HCE.out Y a.bel M2 _ HQ2.out).1, a.bel⟩
                    clear hq2 h3 hM2
                    go_upto_region 28 with fail
                    refine wp_region_M (S := (fun w' : World => w'.cell? ⟨g, M2 * 2, none⟩ = some (.int .i64 (q2.1 : Int)) ∧ Hid (Below w.heap.size w w'))) (by kernel_rfl) (HSS.out _ (Below.refl _ _).drew) ?_
                    refine wpAnyM_take (i := 0) (oi := { dst := Option.some 105, op := Op.build 24 #[], type := 24, pos := "ref.go:142", after := #[], guard := Option.none }) (v := ?vf1z0) rfl (by kernel_rfl) (by kernel_rfl) (by kernel_rfl) (fun _ _ _ h => h) (YieldsM.of_if (Or.inl ⟨by rfl, ?hf1z0⟩)) ?rf1z0
                    case hf1z0 => ((intro wz hSw; (try dsimp only at hSw); go_simp); try (with_reducible rfl))
                    try simp only [Act.put, List.setIfInBounds_toArray, List.set_cons_zero, List.set_cons_succ]
                    refine wpAnyM_take (i := 1) (oi := { dst := Option.some 106, op := Op.move (Operand.tmp 0), type := 72, pos := "ref.go:142", after := #[], guard := Option.none }) (v := ?vf2z1) rfl (by kernel_rfl) (by kernel_rfl) (by kernel_rfl) (fun _ _ _ h => h) (YieldsM.of_if (Or.inl ⟨by rfl, ?hf2z1⟩)) ?rf2z1
                    case hf2z1 => ((intro wz hSw; (try dsimp only at hSw); go_simp); try (with_reducible rfl))
                    try simp only [Act.put, List.setIfInBounds_toArray, List.set_cons_zero, List.set_cons_succ]
                    refine wpAnyM_take (i := 2) (oi := { dst := Option.some 107, op := Op.move (Operand.tmp 7), type := 3, pos := "ref.go:142", after := #[], guard := Option.none }) (v := ?vf3z2) rfl (by kernel_rfl) (by kernel_rfl) (by kernel_rfl) (fun _ _ _ h => h) (YieldsM.of_if (Or.inl ⟨by rfl, ?hf3z2⟩)) ?rf3z2
                    case hf3z2 => ((intro wz hSw; (try dsimp only at hSw); go_simp); try (with_reducible rfl))
                    try simp only [Act.put, List.setIfInBounds_toArray, List.set_cons_zero, List.set_cons_succ]
                    refine wpAnyM_take (i := 3) (oi := { dst := Option.some 108, op := Op.binOp BinOp.add 3 (Operand.tmp 107) (Operand.const (Value.int IntKind.i64 2)) 3, type := 3, pos := "ref.go:142", after := #[{ on := 2, ground := Ground.data }], guard := Option.none }) (v := ?vf4z3) rfl (by kernel_rfl) (by kernel_rfl) (by kernel_rfl) (fun _ _ _ h => h) (YieldsM.of_if (Or.inl ⟨by rfl, ?hf4z3⟩)) ?rf4z3
                    case hf4z3 => ((intro wz hSw; (try dsimp only at hSw); go_simp); try (with_reducible rfl))
                    try simp only [Act.put, List.setIfInBounds_toArray, List.set_cons_zero, List.set_cons_succ]
                    refine wpAnyM_take (i := 4) (oi := { dst := Option.some 109, op := Op.indexAddr 72 (Operand.tmp 106) (Operand.tmp 108), type := 0, pos := "ref.go:142", after := #[{ on := 1, ground := Ground.data }, { on := 3, ground := Ground.data }], guard := Option.none }) (v := ?vf5z4) rfl (by kernel_rfl) (by kernel_rfl) (by kernel_rfl) (fun _ _ _ h => h) (YieldsM.of_if (Or.inl ⟨by rfl, ?hf5z4⟩)) ?rf5z4
                    case hf5z4 => ((intro wz hSw; (try dsimp only at hSw); go_simp); try (with_reducible rfl))
                    try simp only [Act.put, List.setIfInBounds_toArray, List.set_cons_zero, List.set_cons_succ]
                    refine wpAnyM_take (i := 5) (oi := { dst := Option.some 110, op := Op.fieldAddr 103 (Operand.tmp 109) 0, type := 0, pos := "ref.go:142", after := #[{ on := 4, ground := Ground.data }], guard := Option.none }) (v := ?vf6z5) rfl (by kernel_rfl) (by kernel_rfl) (by kernel_rfl) (fun _ _ _ h => h) (YieldsM.of_if (Or.inl ⟨by rfl, ?hf6z5⟩)) ?rf6z5
                    case hf6z5 => ((intro wz hSw; (try dsimp only at hSw); go_simp); try (with_reducible rfl))
                    try simp only [Act.put, List.setIfInBounds_toArray, List.set_cons_zero, List.set_cons_succ]
                    refine wpAnyM_take (i := 6) (oi := { dst := Option.some 111, op := Op.load 3 (Operand.tmp 110), type := 3, pos := "ref.go:142", after := #[{ on := 5, ground := Ground.data }], guard := Option.none }) (v := ?vf7z6) rfl (by kernel_rfl) (by kernel_rfl) (by kernel_rfl) (fun _ _ _ h => h) (YieldsM.of_if (Or.inl ⟨by rfl, ?hf7z6⟩)) ?rf7z6
                    case hf7z6 => ((intro wz hSw; (try dsimp only at hSw); go_simp); try (with_reducible rfl))
                    try simp only [Act.put, List.setIfInBounds_toArray, List.set_cons_zero, List.set_cons_succ]
                    refine wpAnyM_take (i := 7) (oi := { dst := Option.some 112, op := Op.call { callee := Callee.value (Operand.func 14), args := #[Operand.const (Value.int IntKind.i64 6)], argTypes := #[49] }, type := 35, pos := "ref.go:142", after := #[], guard := Option.none }) (v := (.agg #[.int .i64 6, .slice none 0 0])) rfl (by kernel_rfl) (by kernel_rfl) (by kernel_rfl) (fun _ _ _ h => h) (YieldsM.of_call (f := 14) (by rfl) (fun _ _ => by kernel_rfl) (fun wx hSx => (E_calls 6 wx).mono (by rintro e9 w9 ⟨rfl, hb9⟩; have a9 := hSx.2.out.trans (hb9.mono hSx.2.out.size); exact ⟨rfl, hb9, (HCE.out w9 a9 M2 _ HQ2.out).1, a9⟩))) ?_
                    try simp only [Act.put, List.setIfInBounds_toArray, List.set_cons_zero, List.set_cons_succ]
                    refine readyM (i := 8) (o := { dst := Option.some 113, op := Op.call { callee := Callee.value (Operand.func 33), args := #[Operand.const (Value.int IntKind.i64 1), Operand.tmp 111, Operand.tmp 112], argTypes := #[52, 3, 35] }, type := 35, pos := "ref.go:142", after := #[{ on := 6, ground := Ground.data }, { on := 7, ground := Ground.data }, { on := 7, ground := Ground.chain }], guard := Option.none }) rfl (by kernel_rfl) ?_
                    intro u4 hg4 hS4 K hK
                    rw [if_pos (by rfl)]
                    go_simp
                    refine (refAt_calls 1 (q2.1 : Int) 6 u4).mono ?_
                    rintro e9 y6 ⟨pg, rfl, hpg, hy6⟩
                    have a6 : DgS w z1 z2 y6 := (Ax9.out.1.st.up (btrG (Below.refl _ _).drew hg4)).up hy6
                    have HPG : Hid (y6.heap[pg]? = some (.cells #[.int .i64 1, .int .i64 (q2.1 : Int)] 77) ∧ DgS w z1 z2 y6) := ⟨hpg, a6⟩
                    refine hK.out _ _ ⟨(HCE.out y6 a6.bel M2 _ HQ2.out).1, a6.bel⟩ ?_
                    clear hK K hpg hy6 hg4 hS4 a6
                    try simp only [Act.put, List.setIfInBounds_toArray, List.set_cons_zero, List.set_cons_succ]
                    refine readyM (i := 9) (o := { dst := Option.none, op := Op.store 24 (Operand.tmp 2) (Operand.tmp 105), type := 0, pos := "ref.go:142", after := #[{ on := 0, ground := Ground.data }, { on := 8, ground := Ground.chain }, { on := 0, ground := Ground.phase }, { on := 1, ground := Ground.textOnly Departure.lateStores }, { on := 2, ground := Ground.textOnly Departure.lateStores }, { on := 3, ground := Ground.textOnly Departure.lateStores }, { on := 4, ground := Ground.textOnly Departure.lateStores }, { on := 5, ground := Ground.textOnly Departure.lateStores }, { on := 6, ground := Ground.textOnly Departure.lateStores }, { on := 7, ground := Ground.textOnly Departure.lateStoresUnsure }, { on := 8, ground := Ground.textOnly Departure.lateStoresUnsure }], guard := Option.none }) rfl (by kernel_rfl) ?_
                    intro u5 hg5 hS5 K hK
                    rw [if_pos (by rfl)]
                    have H5 : Hid (u5.heap[pg]? = some (.cells #[.int .i64 1, .int .i64 (q2.1 : Int)] 77) ∧ DgS w z1 z2 u5) := ⟨(Below.block hg5 _ (Array.getElem?_eq_some_iff.1 HPG.out.1).1).trans HPG.out.1, HPG.out.2.up hg5⟩
                    obtain ⟨y0, y1, y3, y4, g0, g1, g3, g4⟩ := H5.out.2.cl
                    obtain ⟨D5, N5⟩ := H5.out.2.zero
                    have H6 : Hid (((u5.setCell ⟨z1, 0, none⟩ (.int .i64 0)).setCell ⟨z1, 1, none⟩ (.slice none 0 0)).heap[pg]? = some (.cells #[.int .i64 1, .int .i64 (q2.1 : Int)] 77) ∧ DgS w z1 z2 ((u5.setCell ⟨z1, 0, none⟩ (.int .i64 0)).setCell ⟨z1, 1, none⟩ (.slice none 0 0))) := ⟨(N5 _ (at_ne H5.out.1 H5.out.2.r1 dg_ne.2.2.1)).trans H5.out.1, D5⟩
                    clear D5 N5
                    go_simp
                    refine hK.out _ _ ⟨(HCE.out _ H6.out.2.bel M2 _ HQ2.out).1, H6.out.2.bel⟩ ?_
                    clear hK K hg5 hS5 y0 y1 y3 y4 g0 g1 g3 g4
                    try simp only [Act.put, List.setIfInBounds_toArray, List.set_cons_zero, List.set_cons_succ]
                    refine readyM (i := 10) (o := { dst := Option.none, op := Op.store 35 (Operand.tmp 3) (Operand.tmp 113), type := 0, pos := "ref.go:142", after := #[{ on := 8, ground := Ground.data }, { on := 9, ground := Ground.chain }, { on := 0, ground := Ground.phase }, { on := 1, ground := Ground.phase }, { on := 2, ground := Ground.phase }, { on := 3, ground := Ground.phase }, { on := 4, ground := Ground.phase }, { on := 5, ground := Ground.phase }, { on := 6, ground := Ground.phase }, { on := 7, ground := Ground.phase }, { on := 8, ground := Ground.phase }, { on := 9, ground := Ground.phase }], guard := Option.none }) rfl (by kernel_rfl) ?_
                    intro u6 hg6 hS6 K hK
                    rw [if_pos (by rfl)]
                    have H7 : Hid (u6.heap[pg]? = some (.cells #[.int .i64 1, .int .i64 (q2.1 : Int)] 77) ∧ DgS w z1 z2 u6) := ⟨(Below.block hg6 _ (Array.getElem?_eq_some_iff.1 H6.out.1).1).trans H6.out.1, H6.out.2.up hg6⟩
                    obtain ⟨y0, y1, y3, y4, g0, g1, g3, g4⟩ := H7.out.2.cl
                    obtain ⟨gb1, gb2⟩ := set_far H7.out.2.bel H7.out.2.lt.2 (.int .i64 6) (.slice (some ⟨pg, 0, none⟩) 1 1)
                    have H8 : Hid (((u6.setCell ⟨z2, 0, none⟩ (.int .i64 6)).setCell ⟨z2, 1, none⟩ (.slice (some ⟨pg, 0, none⟩) 1 1)).heap[pg]? = some (.cells #[.int .i64 1, .int .i64 (q2.1 : Int)] 77) ∧ ((u6.setCell ⟨z2, 0, none⟩ (.int .i64 6)).setCell ⟨z2, 1, none⟩ (.slice (some ⟨pg, 0, none⟩) 1 1)).heap[z1]? = some (.cells #[.int .i64 0, .slice none 0 0] 24) ∧ ((u6.setCell ⟨z2, 0, none⟩ (.int .i64 6)).setCell ⟨z2, 1, none⟩ (.slice (some ⟨pg, 0, none⟩) 1 1)).heap[z2]? = some (.cells #[.int .i64 6, .slice (some ⟨pg, 0, none⟩) 1 1] 35) ∧ Below w.heap.size w ((u6.setCell ⟨z2, 0, none⟩ (.int .i64 6)).setCell ⟨z2, 1, none⟩ (.slice (some ⟨pg, 0, none⟩) 1 1))) := ⟨(gb2 _ (at_ne H7.out.1 H7.out.2.r2 dg_ne.2.2.2.2.2.2.2)).trans H7.out.1, (gb2 _ H7.out.2.ne.1).trans H7.out.2.r1, set_twoG H7.out.2.r2 _ _, gb1⟩
                    clear gb1 gb2
                    go_simp
                    refine hK.out _ _ ⟨(HCE.out _ H8.out.2.2.2 M2 _ HQ2.out).1, H8.out.2.2.2⟩ ?_
                    clear hK K hg6 hS6 y0 y1 y3 y4 g0 g1 g3 g4
                    try simp only [Act.put, List.setIfInBounds_toArray, List.set_cons_zero, List.set_cons_succ]
                    refine wpAnyM_done (by kernel_rfl) ?_ _
                    intro u9 hg9 hS9
                    have kp9 : ∀ {j : Nat} {c : Array Value} {T : TypeId}, ((u6.setCell ⟨z2, 0, none⟩ (.int .i64 6)).setCell ⟨z2, 1, none⟩ (.slice (some ⟨pg, 0, none⟩) 1 1)).heap[j]? = some (.cells c T) → u9.heap[j]? = some (.cells c T) := fun hj => (Below.block hg9 _ (Array.getElem?_eq_some_iff.1 hj).1).trans hj
                    have H9 : Hid (u9.heap[pg]? = some (.cells #[.int .i64 1, .int .i64 (q2.1 : Int)] 77) ∧ u9.heap[z1]? = some (.cells #[.int .i64 0, .slice none 0 0] 24) ∧ u9.heap[z2]? = some (.cells #[.int .i64 6, .slice (some ⟨pg, 0, none⟩) 1 1] 35) ∧ Below w.heap.size w u9) := ⟨kp9 H8.out.1, kp9 H8.out.2.1, kp9 H8.out.2.2.1, H8.out.2.2.2.trans (Below.mono hg9 H8.out.2.2.2.size)⟩
                    clear kp9 hg9 hS9
                    go_wp2
                    refine bodyPost_ret (dg_res H9.out.2.1 H9.out.2.2.1 rfl rfl) rfl ?_
                    exact dg_bad HG.out.1 HG.out.2 (place_one H9.out.1) H9.out.2.2.2
                  · have j9 : decide ((m : Int) + 2 < (Q.length : Int)) = false := by simp; omega
                    have j10 : ¬ m + 2 < Q.length := by omega
                    have HG : Hid (gR R = ((0, 0), N, A)) := by
                      show _ = _
                      have e3 : FF = ((0, 0), A) := by rw [← HFE0.out, gF, if_neg (by rw [HRZ.out]; decide), if_neg (by rw [HRL.out]; omega)]
                      rw [HGR.out, e3]
                      rfl
                    obtain ⟨b0, b1, _, _, _⟩ := Ax9.out.1.gcl
                    obtain ⟨y0, y1, y3, y4, g0, g1, g3, g4⟩ := Ax9.out.1.st.cl
                    obtain ⟨q1, q2⟩ := Ax9.out.1.st.ne
                    have k3 := Ax9.out.1.gl.2
                    have k4 := Ne.symm k3
                    clear h3
                    go_wp2
                    have gF9 := dg_fin1 Ax9.out.1.st (.int .i64 (N : Int)) (.slice ao A.length ac) (.int .i64 0) (.slice none 0 0) (places_nil x9)
                    refine bodyPost_ret (dg_res (z1 := z1) (z2 := z2) (a := .int .i64 (N : Int)) (b := .slice ao A.length ac) (x0 := .int .i64 0) (x1 := .slice none 0 0) (by with_reducible exact gF9.1) (by with_reducible exact gF9.2.1) rfl rfl) rfl ?_
                    exact dg_good Ax9.out.1 HG.out
                · have HG : Hid (gR R = ((c, ln2), 0, []) ∧ c ≠ 0) := by
                    have e3 : FF = ((c, ln2), []) := by rw [← HFE0.out, gF, if_pos (by rw [HRA.out.1, hfm]; exact hc), HRA.out.1, HRA.out.2, hfm]
                    exact ⟨by rw [HGR.out, e3, if_neg hc], hc⟩
                  have HP : Hid (RefPl x8 (.slice lr 1 l5) [(1, (ln2 : Int))]) := hp
                  clear hv hfm hc hp
                  obtain ⟨ed, hed⟩ : ∃ ed, x8.heap.size = ed := ⟨_, rfl⟩
                  obtain ⟨W7, hW7⟩ : ∃ W7, x8.alloc (.cells #[.int .i64 c, .slice lr 1 l5] 35) = W7 := ⟨_, rfl⟩
                  have HW7 : Hid (x8.alloc (.cells #[.int .i64 c, .slice lr 1 l5] 35) = W7) := hW7
                  have bW7 : Below x8.heap.size x8 W7 := by rw [← hW7]; exact (Below.refl _ _).alloc (Nat.le_refl _) _
                  have mW7 : W7.heap[ed]? = some (.cells #[.int .i64 c, .slice lr 1 l5] 35) := by rw [← hW7, ← hed]; exact heap_newG _ _
                  have AW7 : Hid (DgG w z1 z2 gb N A ao ac W7 ∧ W7.heap[ed]? = some (.cells #[.int .i64 c, .slice lr 1 l5] 35) ∧ w.heap.size ≤ ed ∧ Below x8.heap.size x8 W7) := ⟨AX8.out.up bW7, mW7, by have := AX8.out.bel.size; omega, bW7⟩
                  have e0 : W7.cell? ⟨ed, 0, none⟩ = some (.int .i64 c) := by simp [World.cell?, mW7]
                  have e1 : W7.cell? ⟨ed, 1, none⟩ = some (.slice lr 1 l5) := by simp [World.cell?, mW7]
                  clear hW7 bW7 mW7
                  go_upto_region 25 with fail
                  rw [HW7.out]
                  try rw [hed]
                  go_wp2_with fail
                  refine (bad_calls c lr 1 l5 W7).mono ?_
                  rintro e9 x9 ⟨rfl, hx9⟩
                  have mx9 := (hx9.block _ (Array.getElem?_eq_some_iff.1 AW7.out.2.1).1).trans AW7.out.2.1
                  have Ax9 : Hid (DgG w z1 z2 gb N A ao ac x9 ∧ x9.heap[ed]? = some (.cells #[.int .i64 c, .slice lr 1 l5] 35) ∧ w.heap.size ≤ ed ∧ Below W7.heap.size W7 x9) := ⟨AW7.out.1.up hx9, mx9, AW7.out.2.2.1, hx9⟩
                  clear e0 e1
                  have e0 : x9.cell? ⟨ed, 0, none⟩ = some (.int .i64 c) := by simp [World.cell?, mx9]
                  have e1 : x9.cell? ⟨ed, 1, none⟩ = some (.slice lr 1 l5) := by simp [World.cell?, mx9]
                  clear mx9 hx9
                  have HP3 : Hid (RefPl x9 (.slice lr 1 l5) [(1, (ln2 : Int))]) := (HP.out.keep AW7.out.2.2.2).keep Ax9.out.2.2.2
                  obtain ⟨y0, y1, y3, y4, g0, g1, g3, g4⟩ := Ax9.out.1.st.cl
                  obtain ⟨q1, q2⟩ := Ax9.out.1.st.ne
                  have k1 := at_ne Ax9.out.2.1 (Ax9.out.1.st).r1 dg_ne.1
                  have k2 := Ne.symm k1
                  go_upto_region 26 with fail
                  go_region
                  go_wp2
                  all_goals first
                   | (have gF := dg_fin1d Ax9.out.1.st (.int .i64 0) (.slice none 0 0) (.int .i64 c) (.slice lr 1 l5) HP3.out
                      refine bodyPost_ret (dg_res (z1 := z1) (z2 := z2) (a := (.int .i64 0)) (b := (.slice none 0 0)) (x0 := (.int .i64 c)) (x1 := (.slice lr 1 l5)) (by with_reducible exact gF.1) (by with_reducible exact gF.2.1) rfl rfl) rfl ?_
                      exact dg_bad HG.out.1 HG.out.2 gF.2.2.2 gF.2.2.1)
                   | (have gF := dg_fin2d Ax9.out.1.st (.int .i64 0) (.slice none 0 0) (.int .i64 c) (.slice lr 1 l5) HP3.out
                      refine bodyPost_ret (dg_res (z1 := z1) (z2 := z2) (a := (.int .i64 0)) (b := (.slice none 0 0)) (x0 := (.int .i64 c)) (x1 := (.slice lr 1 l5)) (by with_reducible exact gF.1) (by with_reducible exact gF.2.1) rfl rfl) rfl ?_
                      exact dg_bad HG.out.1 HG.out.2 gF.2.2.2 gF.2.2.1)
        · have HG : Hid (gR R = ((c, ln), 0, []) ∧ c ≠ 0) := HLN.out c hc (by rw [HROW.out, if_pos HB1.out.1, if_neg (by rw [show 262145 = 262144 + 1 from rfl, hb1]; exact hc)]; exact hb1)
          have HP : Hid (RefPl x6 (.slice lq 1 l4) [(1, (ln : Int))]) := hp
          clear hv hb1 hc hp
          obtain ⟨W4, hW4⟩ : ∃ W4, (x6.setCell ⟨ec, 0, none⟩ (.int .i64 c)).setCell ⟨ec, 1, none⟩ (.slice lq 1 l4) = W4 := ⟨_, rfl⟩
          have S5 := Ax6.out.1.setE Ax6.out.2 HEC.out AW3.out.2.2.1 (.int .i64 c) (.slice lq 1 l4)
          rw [hW4] at S5
          have AW4 : Hid (DgS w z1 z2 W4 ∧ W4.heap[ec]? = some (.cells #[.int .i64 c, .slice lq 1 l4] 35) ∧ w.heap.size ≤ ec ∧ (∀ sl ps, RefPl x6 sl ps → RefPl W4 sl ps)) := ⟨S5.1, S5.2.1, AW3.out.2.2.1, S5.2.2⟩
          have e0 : W4.cell? ⟨ec, 0, none⟩ = some (.int .i64 c) := by have := S5.2.1; simp [World.cell?, this]
          have e1 : W4.cell? ⟨ec, 1, none⟩ = some (.slice lq 1 l4) := by have := S5.2.1; simp [World.cell?, this]
          clear S5
          go_wp2_with fail
          refine (bad_calls c lq 1 l4 W4).mono ?_
          rintro e9 x7 ⟨rfl, hx7⟩
          have mx7 := (hx7.block _ (Array.getElem?_eq_some_iff.1 AW4.out.2.1).1).trans AW4.out.2.1
          have Ax7 : Hid (DgS w z1 z2 x7 ∧ x7.heap[ec]? = some (.cells #[.int .i64 c, .slice lq 1 l4] 35) ∧ w.heap.size ≤ ec ∧ Below W4.heap.size W4 x7) := ⟨AW4.out.1.up hx7, mx7, AW4.out.2.2.1, hx7⟩
          clear e0 e1
          have e0 : x7.cell? ⟨ec, 0, none⟩ = some (.int .i64 c) := by simp [World.cell?, mx7]
          have e1 : x7.cell? ⟨ec, 1, none⟩ = some (.slice lq 1 l4) := by simp [World.cell?, mx7]
          clear mx7 hx7
          have HP3 : Hid (RefPl x7 (.slice lq 1 l4) [(1, (ln : Int))]) := (AW4.out.2.2.2 _ _ HP.out).keep Ax7.out.2.2.2
          clear hW4 t0 t1 t2 t3
          obtain ⟨y0, y1, y3, y4, g0, g1, g3, g4⟩ := Ax7.out.1.cl
          obtain ⟨q1, q2⟩ := Ax7.out.1.ne
          have k1 := at_ne Ax7.out.2.1 (Ax7.out.1).r1 dg_ne.1
          have k2 := Ne.symm k1
          go_upto_region 11 with fail
          go_region
          go_wp2
          all_goals first
           | (have gF := dg_fin1d Ax7.out.1 (.int .i64 0) (.slice none 0 0) (.int .i64 c) (.slice lq 1 l4) HP3.out
              refine bodyPost_ret (dg_res (z1 := z1) (z2 := z2) (a := (.int .i64 0)) (b := (.slice none 0 0)) (x0 := (.int .i64 c)) (x1 := (.slice lq 1 l4)) (by with_reducible exact gF.1) (by with_reducible exact gF.2.1) rfl rfl) rfl ?_
              exact dg_bad HG.out.1 HG.out.2 gF.2.2.2 gF.2.2.1)
           | (have gF := dg_fin2d Ax7.out.1 (.int .i64 0) (.slice none 0 0) (.int .i64 c) (.slice lq 1 l4) HP3.out
              refine bodyPost_ret (dg_res (z1 := z1) (z2 := z2) (a := (.int .i64 0)) (b := (.slice none 0 0)) (x0 := (.int .i64 c)) (x1 := (.slice lq 1 l4)) (by with_reducible exact gF.1) (by with_reducible exact gF.2.1) rfl rfl) rfl ?_
              exact dg_bad HG.out.1 HG.out.2 gF.2.2.2 gF.2.2.1)
      · have HG : Hid (gR R = ((c, ln), 0, []) ∧ c ≠ 0) := HLN.out c hc (by rw [HROW.out, if_neg (by rw [show 65537 = 65536 + 1 from rfl, hb1]; exact hc)]; exact hb1)
        have HP : Hid (RefPl x4 (.slice lp 1 l3) [(1, (ln : Int))]) := hp
        clear hv hb1 hc hp
        obtain ⟨ec, hec⟩ : ∃ ec, x4.heap.size = ec := ⟨_, rfl⟩
        obtain ⟨W3, hW3⟩ : ∃ W3, x4.alloc (.cells #[.int .i64 c, .slice lp 1 l3] 35) = W3 := ⟨_, rfl⟩
        have HW3 : Hid (x4.alloc (.cells #[.int .i64 c, .slice lp 1 l3] 35) = W3) := hW3
        have bW3 : Below x4.heap.size x4 W3 := by rw [← hW3]; exact (Below.refl _ _).alloc (Nat.le_refl _) _
        have mW3 : W3.heap[ec]? = some (.cells #[.int .i64 c, .slice lp 1 l3] 35) := by rw [← hW3, ← hec]; exact heap_newG _ _
        have AW3 : Hid (DgS w z1 z2 W3 ∧ W3.heap[ec]? = some (.cells #[.int .i64 c, .slice lp 1 l3] 35) ∧ w.heap.size ≤ ec ∧ Below x4.heap.size x4 W3) := ⟨HX4.out.1.up bW3, mW3, by have := HX4.out.1.bel.size; omega, bW3⟩
        have e0 : W3.cell? ⟨ec, 0, none⟩ = some (.int .i64 c) := by simp [World.cell?, mW3]
        have e1 : W3.cell? ⟨ec, 1, none⟩ = some (.slice lp 1 l3) := by simp [World.cell?, mW3]
        clear hW3 bW3 mW3
        go_upto_region 7 with fail
        rw [HW3.out]
        try rw [hec]
        go_wp2_with fail
        refine (bad_calls c lp 1 l3 W3).mono ?_
        rintro e9 x5 ⟨rfl, hx5⟩
        have mx5 := (hx5.block _ (Array.getElem?_eq_some_iff.1 AW3.out.2.1).1).trans AW3.out.2.1
        have Ax5 : Hid (DgS w z1 z2 x5 ∧ x5.heap[ec]? = some (.cells #[.int .i64 c, .slice lp 1 l3] 35) ∧ w.heap.size ≤ ec ∧ Below W3.heap.size W3 x5) := ⟨AW3.out.1.up hx5, mx5, AW3.out.2.2.1, hx5⟩
        clear e0 e1
        have e0 : x5.cell? ⟨ec, 0, none⟩ = some (.int .i64 c) := by simp [World.cell?, mx5]
        have e1 : x5.cell? ⟨ec, 1, none⟩ = some (.slice lp 1 l3) := by simp [World.cell?, mx5]
        clear mx5 hx5
        have HP3 : Hid (RefPl x5 (.slice lp 1 l3) [(1, (ln : Int))]) := (HP.out.keep AW3.out.2.2.2).keep Ax5.out.2.2.2
        obtain ⟨y0, y1, y3, y4, g0, g1, g3, g4⟩ := Ax5.out.1.cl
        obtain ⟨q1, q2⟩ := Ax5.out.1.ne
        have k1 := at_ne Ax5.out.2.1 (Ax5.out.1).r1 dg_ne.1
        have k2 := Ne.symm k1
        go_upto_region 8 with fail
        go_region
        go_wp2
        all_goals first
         | (have gF := dg_fin1d Ax5.out.1 (.int .i64 0) (.slice none 0 0) (.int .i64 c) (.slice lp 1 l3) HP3.out
            refine bodyPost_ret (dg_res (z1 := z1) (z2 := z2) (a := (.int .i64 0)) (b := (.slice none 0 0)) (x0 := (.int .i64 c)) (x1 := (.slice lp 1 l3)) (by with_reducible exact gF.1) (by with_reducible exact gF.2.1) rfl rfl) rfl ?_
            exact dg_bad HG.out.1 HG.out.2 gF.2.2.2 gF.2.2.1)
         | (have gF := dg_fin2d Ax5.out.1 (.int .i64 0) (.slice none 0 0) (.int .i64 c) (.slice lp 1 l3) HP3.out
            refine bodyPost_ret (dg_res (z1 := z1) (z2 := z2) (a := (.int .i64 0)) (b := (.slice none 0 0)) (x0 := (.int .i64 c)) (x1 := (.slice lp 1 l3)) (by with_reducible exact gF.1) (by with_reducible exact gF.2.1) rfl rfl) rfl ?_
            exact dg_bad HG.out.1 HG.out.2 gF.2.2.2 gF.2.2.1)
    · have HG : Hid (gR R = ((c, ln), 0, []) ∧ c ≠ 0) := HLN.out c hc (by rw [row_fm, show 1 + bG.length = 3 from rfl, if_neg (by rw [hfm]; exact hc)]; exact hfm)
      have HP : Hid (RefPl x1 (.slice lo 1 l2) [(1, (ln : Int))]) := hp
      clear hv hfm hc hp
      obtain ⟨eb, heb⟩ : ∃ eb, x1.heap.size = eb := ⟨_, rfl⟩
      obtain ⟨W2, hW2⟩ : ∃ W2, x1.alloc (.cells #[.int .i64 c, .slice lo 1 l2] 35) = W2 := ⟨_, rfl⟩
      have HW2 : Hid (x1.alloc (.cells #[.int .i64 c, .slice lo 1 l2] 35) = W2) := hW2
      have bW2 : Below x1.heap.size x1 W2 := by rw [← hW2]; exact (Below.refl _ _).alloc (Nat.le_refl _) _
      have mW2 : W2.heap[eb]? = some (.cells #[.int .i64 c, .slice lo 1 l2] 35) := by rw [← hW2, ← heb]; exact heap_newG _ _
      have AW2 : Hid (DgS w z1 z2 W2 ∧ W2.heap[eb]? = some (.cells #[.int .i64 c, .slice lo 1 l2] 35) ∧ w.heap.size ≤ eb ∧ Below x1.heap.size x1 W2) := ⟨HX1.out.1.up bW2, mW2, by have := HX1.out.1.bel.size; omega, bW2⟩
      have e0 : W2.cell? ⟨eb, 0, none⟩ = some (.int .i64 c) := by simp [World.cell?, mW2]
      have e1 : W2.cell? ⟨eb, 1, none⟩ = some (.slice lo 1 l2) := by simp [World.cell?, mW2]
      clear hW2 bW2 mW2
      go_upto_region 4 with fail
      rw [HW2.out]
      try rw [heb]
      go_wp2_with fail
      refine (bad_calls c lo 1 l2 W2).mono ?_
      rintro e9 x3 ⟨rfl, hx3⟩
      have mx3 := (hx3.block _ (Array.getElem?_eq_some_iff.1 AW2.out.2.1).1).trans AW2.out.2.1
      have Ax3 : Hid (DgS w z1 z2 x3 ∧ x3.heap[eb]? = some (.cells #[.int .i64 c, .slice lo 1 l2] 35) ∧ w.heap.size ≤ eb ∧ Below W2.heap.size W2 x3) := ⟨AW2.out.1.up hx3, mx3, AW2.out.2.2.1, hx3⟩
      clear e0 e1
      have e0 : x3.cell? ⟨eb, 0, none⟩ = some (.int .i64 c) := by simp [World.cell?, mx3]
      have e1 : x3.cell? ⟨eb, 1, none⟩ = some (.slice lo 1 l2) := by simp [World.cell?, mx3]
      clear mx3 hx3
      have HP3 : Hid (RefPl x3 (.slice lo 1 l2) [(1, (ln : Int))]) := (HP.out.keep AW2.out.2.2.2).keep Ax3.out.2.2.2
      obtain ⟨y0, y1, y3, y4, g0, g1, g3, g4⟩ := Ax3.out.1.cl
      obtain ⟨q1, q2⟩ := Ax3.out.1.ne
      have k1 := at_ne Ax3.out.2.1 (Ax3.out.1).r1 dg_ne.1
      have k2 := Ne.symm k1
      go_upto_region 5 with fail
      go_region
      go_wp2
      all_goals first
       | (have gF := dg_fin1d Ax3.out.1 (.int .i64 0) (.slice none 0 0) (.int .i64 c) (.slice lo 1 l2) HP3.out
          refine bodyPost_ret (dg_res (z1 := z1) (z2 := z2) (a := (.int .i64 0)) (b := (.slice none 0 0)) (x0 := (.int .i64 c)) (x1 := (.slice lo 1 l2)) (by with_reducible exact gF.1) (by with_reducible exact gF.2.1) rfl rfl) rfl ?_
          exact dg_bad HG.out.1 HG.out.2 gF.2.2.2 gF.2.2.1)
       | (have gF := dg_fin2d Ax3.out.1 (.int .i64 0) (.slice none 0 0) (.int .i64 c) (.slice lo 1 l2) HP3.out
          refine bodyPost_ret (dg_res (z1 := z1) (z2 := z2) (a := (.int .i64 0)) (b := (.slice none 0 0)) (x0 := (.int .i64 c)) (x1 := (.slice lo 1 l2)) (by with_reducible exact gF.1) (by with_reducible exact gF.2.1) rfl rfl) rfl ?_
          exact dg_bad HG.out.1 HG.out.2 gF.2.2.2 gF.2.2.1)
end Go.Proofs.YtghbekpilhnkfabDoor.Gt
