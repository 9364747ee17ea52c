/- gtext's Parse, walked. -/
import Derived.Test.YthgmhhlgjooeaaaGreatDoorGtJ
namespace Go.Proofs.YthgmhhlgjooeaaaGreatDoor.Gt
open Go Go.Lib Go.RowKit Go.Extern Hi

attribute [local go_sem] Oper.semAt_some

/-- what Parse answers: the error, the graph. -/
def psE (t : By) : Int × List (Int × Int) := if rowsE t = (0, []) then (if (gR (rowsR t)).1.1 = 0 then (0, []) else ((gR (rowsR t)).1.1, [(1, ((gR (rowsR t)).1.2 : Int))])) else rowsE t
def psG (t : By) : Nat × List Arc3 := if rowsE t = (0, []) then (gR (rowsR t)).2 else (0, [])
def PsA (t : By) (w : World) (e : Ending) (w' : World) : Prop := ∃ (u : Value) (ao : Option Addr) (ac : Nat), e = .returned (.tuple #[.agg #[.int .i64 ((psG t).1 : Int), .slice ao (psG t).2.length ac], u]) ∧ IsTold w' (psE t) u ∧ Below w.heap.size w w' ∧ w'.ownsRow w.heap.size 50 3 (.slice ao (psG t).2.length ac) (psG t).2.length (acs (psG t).2)
theorem gF_bad {R : List Row} {N : Nat} : ∀ {m k : Nat} {A : List Arc3}, (gF R N m k A).1.1 ≠ 0 → (gF R N m k A).2 = []
  | 0, k, A, h => by
    unfold gF at h ⊢
    split
    · rfl
    · rename_i h1
      rw [if_neg h1] at h
      split
      · rfl
      · rename_i h2
        rw [if_neg h2] at h
        exact absurd rfl h
  | m + 1, k, A, h => by
    unfold gF at h ⊢
    split
    · rfl
    · rename_i h1
      rw [if_neg h1] at h
      exact gF_bad h
theorem gR_bad {R : List Row} (h : (gR R).1.1 ≠ 0) : (gR R).2 = (0, []) := by
  unfold gR at h ⊢
  split
  · rfl
  · rename_i h1
    rw [if_neg h1] at h
    split
    · rename_i h2
      rw [if_pos h2] at h
      exact absurd rfl h
    · rfl
theorem rd_new {w y : World} {ro : Option Addr} {rc : Nat} {Q : List Rw} (h : RowsI w y (.slice ro Q.length rc) Q) : Rd (y.alloc (.cells #[.slice ro Q.length rc, .int .i64 0] 74)) y.heap.size Q 0 0 := by
  have hb : Below y.heap.size y (y.alloc (.cells #[.slice ro Q.length rc, .int .i64 0] 74)) := (Below.refl _ _).alloc (Nat.le_refl _) _
  refine ⟨⟨ro, rc, heap_newG _ _, ?_, fun hk => ?_⟩, fun q hq => (h.wds q hq).keep hb, h.few⟩
  · rcases h.own.2 with ⟨e, h0⟩ | ⟨g, cap, cur, e, hg, hh, hc, _⟩
    · omega
    · cases e
      omega
  · rcases h.own.2 with ⟨e, h0⟩ | ⟨g, cap, cur, e, hg, hh, hc, _, _, ht⟩
    · omega
    · cases e
      refine ⟨g, rfl, cur, (hb.block _ (Array.getElem?_eq_some_iff.1 hh).1).trans hh, fun j q hq => ?_⟩
      obtain ⟨g1, g2⟩ := rcs_get Q j q hq
      have hj := (List.getElem?_eq_some_iff.1 hq).1
      have key : ∀ i u, (rcs Q)[i]? = some u → cur[i]? = some u := fun i u hu => by
        rw [← ht, List.getElem?_take] at hu
        split at hu
        · rwa [Array.getElem?_toList] at hu
        · cases hu
      exact ⟨key _ _ g1, key _ _ g2⟩
theorem parse_res {W : World} {z : Nat} {x0 x1 u : Value} {tmps : Array Value} (h1 : W.heap[z]? = some (.cells #[x0, x1] 24)) (t2 : tmps[2]?.getD undef = .pointer (some ⟨z, 0, none⟩)) (t3 : tmps[3]?.getD undef = u) :
    (results Tryz.f7 tmps).run Tryz.prog W = .ok (.tuple #[.agg #[x0, x1], u]) W := by
  have c0 : W.cell? ⟨z, 0, none⟩ = some x0 := by simp [World.cell?, h1]
  have c1 : W.cell? ⟨z, 1, none⟩ = some x1 := by simp [World.cell?, h1]
  simp [results, Tryz.results7, go_sem, t2, t3, c0, c1]
theorem set_far {w W : World} {z : Nat} (h : Below w.heap.size w W) (hz : w.heap.size ≤ z) (u v : Value) : Below w.heap.size w ((W.setCell ⟨z, 0, none⟩ u).setCell ⟨z, 1, none⟩ v) ∧ ∀ j, j ≠ z → ((W.setCell ⟨z, 0, none⟩ u).setCell ⟨z, 1, none⟩ v).heap[j]? = W.heap[j]? := by
  have far : ∀ j, j ≠ z → ((W.setCell ⟨z, 0, none⟩ u).setCell ⟨z, 1, none⟩ v).heap[j]? = W.heap[j]? := fun j hj => (Below.heap_setCell _ _ _ _ (by exact hj)).trans (Below.heap_setCell _ _ _ _ (by exact hj))
  have sz : ((W.setCell ⟨z, 0, none⟩ u).setCell ⟨z, 1, none⟩ v).heap.size = W.heap.size := by simp [World.setCell]
  exact ⟨⟨h.os, h.tape, h.output, by rw [sz]; exact h.size, fun j hj => (far j (by omega)).trans (h.block j hj)⟩, far⟩
theorem fl_ne : 48 ≠ 24 ∧ 48 ≠ 74 := by decide
theorem told_set {W : World} {z : Nat} {c : Array Value} {e : Int × List (Int × Int)} {v x y : Value} (h : IsTold W e v) (hz : W.heap[z]? = some (.cells c 24)) : IsTold ((W.setCell ⟨z, 0, none⟩ x).setCell ⟨z, 1, none⟩ y) e v :=
  h.keep fun b c2 hb => by
    have hn := at_ne hb hz fl_ne.1
    exact ((Below.heap_setCell _ _ _ _ (by exact hn)).trans (Below.heap_setCell _ _ _ _ (by exact hn))).trans hb
theorem told_shape {W : World} {e : Int × List (Int × Int)} {v : Value} (h : IsTold W e v) : (e = (0, []) ∧ v = .nilIface) ∨ (e ≠ (0, []) ∧ ∃ T u, v = .iface T u) := by
  rcases h with h | ⟨h1, h2⟩
  · exact Or.inl h
  · refine Or.inr ⟨fun e0 => h1 (by rw [e0]), ?_⟩
    obtain ⟨c, ps⟩ := e
    cases ps with
    | nil => exact ⟨_, _, h2⟩
    | cons p ps =>
      obtain ⟨b, u, h3, _⟩ := h2
      exact ⟨_, _, h3⟩

set_option maxRecDepth 100000 in
set_option maxHeartbeats 8000000 in
theorem parse_calls (s : ByteArray) (w : World) (hs : s.size ≤ 281474976710656) : Calls Tryz.prog 7 #[.string s] w (PsA (bs s) w) := by
  obtain ⟨z, hz⟩ : ∃ z, w.heap.size = z := ⟨_, rfl⟩
  obtain ⟨W1, hW1⟩ : ∃ W1, w.alloc (.cells #[.int .i64 0, .slice none 0 0] 24) = W1 := ⟨_, rfl⟩
  have HW1 : Hid (w.alloc (.cells #[.int .i64 0, .slice none 0 0] 24) = W1) := hW1
  have n0 : W1.heap[z]? = some (.cells #[.int .i64 0, .slice none 0 0] 24) := by rw [← hW1, ← hz]; exact heap_newG _ _
  have hb1 : Below w.heap.size w W1 := by rw [← hW1]; exact (Below.refl _ _).alloc (Nat.le_refl _) _
  have H1 : Hid (Below w.heap.size w W1 ∧ W1.heap[z]? = some (.cells #[.int .i64 0, .slice none 0 0] 24) ∧ w.heap.size ≤ z ∧ z < W1.heap.size) := ⟨hb1, n0, by omega, (Array.getElem?_eq_some_iff.1 n0).1⟩
  have HRC : Hid (Calls Tryz.prog 24 #[.string s] W1 (RwA (bs s) W1)) := rows_calls s W1 hs
  obtain ⟨T, hT⟩ : ∃ T, bs s = T := ⟨_, rfl⟩
  rw [hT] at HRC ⊢
  clear hW1 n0 hb1 hT
  go_enter Tryz.func7, Tryz.ntmps7
  go_wp2_with fail
  rw [HW1.out]
  refine HRC.out.mono ?_
  rintro e y1 ⟨u, ro, rc, Q, rfl, htd, hri, hQl, hQm⟩
  have HY1 : Hid (Below w.heap.size w y1 ∧ y1.heap[z]? = some (.cells #[.int .i64 0, .slice none 0 0] 24) ∧ IsTold y1 (rowsE T) u) := ⟨H1.out.1.trans (hri.bel.mono H1.out.1.size), (hri.bel.block _ H1.out.2.2.2).trans H1.out.2.1, htd⟩
  rcases told_shape htd with ⟨hE, rfl⟩ | ⟨hE, Tu, uu, rfl⟩
  · rw [hE, if_pos rfl] at hQm
    obtain ⟨rb, hrb⟩ : ∃ rb, y1.heap.size = rb := ⟨_, rfl⟩
    obtain ⟨W2, hW2⟩ : ∃ W2, y1.alloc (.cells #[.slice ro Q.length rc, .int .i64 0] 74) = W2 := ⟨_, rfl⟩
    have HW2 : Hid (y1.alloc (.cells #[.slice ro Q.length rc, .int .i64 0] 74) = W2) := hW2
    have hrd : Rd W2 rb Q 0 0 := by rw [← hW2, ← hrb]; exact rd_new hri
    have HGC : Hid (Calls Tryz.prog 25 #[.pointer (some ⟨rb, 0, none⟩)] W2 (GphA W2 rb Q)) := graph_calls W2 rb Q hrd
    have hb2 : Below y1.heap.size y1 W2 := by rw [← hW2]; exact (Below.refl _ _).alloc (Nat.le_refl _) _
    have H2 : Hid (Below w.heap.size w W2 ∧ W2.heap[z]? = some (.cells #[.int .i64 0, .slice none 0 0] 24) ∧ w.heap.size ≤ rb ∧ rb ≠ z ∧ w.heap.size ≤ W2.heap.size ∧ z < W2.heap.size) := by
      have hl := (Array.getElem?_eq_some_iff.1 HY1.out.2.1).1
      exact ⟨HY1.out.1.trans (hb2.mono HY1.out.1.size), (hb2.block _ hl).trans HY1.out.2.1, by rw [← hrb]; exact HY1.out.1.size, by omega, Nat.le_trans HY1.out.1.size hb2.size, Nat.lt_of_lt_of_le hl hb2.size⟩
    have HE : Hid (psE T = (if (gR (Q.map rowOf)).1.1 = 0 then (0, []) else ((gR (Q.map rowOf)).1.1, [(1, ((gR (Q.map rowOf)).1.2 : Int))])) ∧ psG T = (gR (Q.map rowOf)).2) := by
      unfold psE psG
      rw [if_pos hE, if_pos hE, hQm]
      exact ⟨rfl, rfl⟩
    obtain ⟨R, hR⟩ : ∃ R, gR (Q.map rowOf) = R := ⟨_, rfl⟩
    have HR : Hid (gR (Q.map rowOf) = R) := hR
    rw [hR] at HE
    clear hR hE hQm htd hri hW2 hb2 hrd hQl
    go_wp2_with fail
    rw [HW2.out]
    try rw [hrb]
    refine HGC.out.mono ?_
    rintro e y2 ⟨ao, ac, k, line, rfl, hof, hr2, hln, hown⟩
    rw [HR.out] at hln hown ⊢
    obtain ⟨⟨E, ln⟩, N, A⟩ := R
    have hbb := hof.below (B := w.heap.size) H2.out.2.2.1 H2.out.2.2.2.2.1
    have HY2 : Hid (Below w.heap.size w y2 ∧ y2.heap[z]? = some (.cells #[.int .i64 0, .slice none 0 0] 24) ∧ y2.ownsRow w.heap.size 50 3 (.slice ao A.length ac) A.length (acs A)) := by
      refine ⟨H2.out.1.trans hbb, (hof.block _ H2.out.2.2.2.2.2 (Ne.symm H2.out.2.2.2.1)).trans H2.out.2.1, ?_⟩
      rcases hown.2 with ⟨e, h0⟩ | ⟨g, cap, cur, e, hg, r⟩
      · exact ⟨hown.1, .inl ⟨e, h0⟩⟩
      · exact ⟨hown.1, .inr ⟨g, cap, cur, e, Nat.le_trans H2.out.2.2.2.2.1 hg, r⟩⟩
    obtain ⟨W4, hW4⟩ : ∃ W4, y2.alloc (.cells #[.int .i64 (N : Int), .slice ao A.length ac] 24) = W4 := ⟨_, rfl⟩
    have HW4 : Hid (y2.alloc (.cells #[.int .i64 (N : Int), .slice ao A.length ac] 24) = W4) := hW4
    obtain ⟨gb, hgb⟩ : ∃ gb, y2.heap.size = gb := ⟨_, rfl⟩
    have hb4 : Below y2.heap.size y2 W4 := by rw [← hW4]; exact (Below.refl _ _).alloc (Nat.le_refl _) _
    have m0 : W4.heap[gb]? = some (.cells #[.int .i64 (N : Int), .slice ao A.length ac] 24) := by rw [← hW4, ← hgb]; exact heap_newG _ _
    have H4 : Hid (Below w.heap.size w W4 ∧ W4.heap[z]? = some (.cells #[.int .i64 0, .slice none 0 0] 24) ∧ W4.ownsRow w.heap.size 50 3 (.slice ao A.length ac) A.length (acs A)) := by
      have kp : ∀ {j : Nat} {c : Array Value} {T : TypeId}, y2.heap[j]? = some (.cells c T) → W4.heap[j]? = some (.cells c T) := fun hj => (hb4.block _ (Array.getElem?_eq_some_iff.1 hj).1).trans hj
      exact ⟨HY2.out.1.trans (hb4.mono HY2.out.1.size), kp HY2.out.2.1, aown_keep HY2.out.2.2 fun _ _ hh => kp hh⟩
    have c0 : W4.cell? ⟨z, 0, none⟩ = some (.int .i64 0) := by simp [World.cell?, H4.out.2.1]
    have c1 : W4.cell? ⟨z, 1, none⟩ = some (.slice none 0 0) := by simp [World.cell?, H4.out.2.1]
    have f0 : W4.frozen? ⟨z, 0, none⟩ = false := by simp [World.frozen?, H4.out.2.1]
    have f1 : W4.frozen? ⟨z, 1, none⟩ = false := by simp [World.frozen?, H4.out.2.1]
    by_cases hE0 : E = 0
    · subst hE0
      have hev : errV 0 = .nilIface := rfl
      rw [hev]
      have d0 : W4.cell? ⟨gb, 0, none⟩ = some (.int .i64 (N : Int)) := by simp [World.cell?, m0]
      have d1 : W4.cell? ⟨gb, 1, none⟩ = some (.slice ao A.length ac) := by simp [World.cell?, m0]
      clear hW4 hb4 m0 hev hln hown hof hr2 hbb
      go_upto_region 6 with fail
      rw [HW4.out]
      try rw [hgb]
      go_wp2
      obtain ⟨g1, g2⟩ := set_far H4.out.1 H1.out.2.2.1 (.int .i64 (N : Int)) (.slice ao A.length ac)
      refine bodyPost_ret (parse_res (set_twoG H4.out.2.1 _ _) rfl rfl) rfl ?_
      unfold PsA
      rw [HE.out.1, HE.out.2]
      refine ⟨.nilIface, ao, ac, rfl, told_noG _, g1, ?_⟩
      exact aown_keep H4.out.2.2 fun j c hj => (g2 j (at_ne hj H4.out.2.1 gr_ne.2.2.1)).trans hj
    · have hev : errV E = .iface 29 (.int .i64 E) := by unfold errV; rw [if_neg hE0]
      rw [hev]
      have hl2 : line = ln := hln hE0
      subst hl2
      obtain ⟨ro2, rc2, q1, _⟩ := hr2.box
      have q2 := (hb4.block _ (Array.getElem?_eq_some_iff.1 q1).1).trans q1
      have d1 : W4.cell? ⟨rb, 1, none⟩ = some (.int .i64 (line : Int)) := by simp [World.cell?, q2]
      obtain ⟨W5, hW5⟩ : ∃ W5, W4.alloc (.cells #[.int .i64 1, .int .i64 (line : Int), .iface 29 (.int .i64 E)] 48) = W5 := ⟨_, rfl⟩
      have hb5 : Below W4.heap.size W4 W5 := by rw [← hW5]; exact (Below.refl _ _).alloc (Nat.le_refl _) _
      have hzl := (Array.getElem?_eq_some_iff.1 H4.out.2.1).1
      have H5 : Hid (Below w.heap.size w W5 ∧ W5.heap[z]? = some (.cells #[.int .i64 0, .slice none 0 0] 24) ∧ IsTold W5 (E, [(1, (line : Int))]) (.iface 41 (.pointer (some ⟨W4.heap.size, 0, none⟩)))) := ⟨H4.out.1.trans (hb5.mono H4.out.1.size), (hb5.block _ hzl).trans H4.out.2.1, by rw [← hW5]; exact told_atG _ hE0⟩
      have HPE : Hid (psE T = (E, [(1, (line : Int))]) ∧ psG T = (0, [])) := by
        refine ⟨by rw [HE.out.1, if_neg hE0], ?_⟩
        rw [HE.out.2, ← HR.out]
        exact gR_bad (by rw [HR.out]; exact hE0)
      have HNZ : Hid (E ≠ 0) := hE0
      have HW5 : Hid (W4.alloc (.cells #[.int .i64 1, .int .i64 (line : Int), .iface 29 (.int .i64 E)] 48) = W5) := hW5
      have rl : rb < W4.heap.size := (Array.getElem?_eq_some_iff.1 q2).1
      clear c0 c1 f0 f1
      have c0 : W5.cell? ⟨z, 0, none⟩ = some (.int .i64 0) := by simp [World.cell?, H5.out.2.1]
      have c1 : W5.cell? ⟨z, 1, none⟩ = some (.slice none 0 0) := by simp [World.cell?, H5.out.2.1]
      have f0 : W5.frozen? ⟨z, 0, none⟩ = false := by simp [World.frozen?, H5.out.2.1]
      have f1 : W5.frozen? ⟨z, 1, none⟩ = false := by simp [World.frozen?, H5.out.2.1]
      clear hW4 hb4 m0 hev hln hown hof hr2 hbb q1 q2 hW5 hb5 hE0
      go_upto_region 6 with fail
      rw [HW4.out]
      try rw [hgb]
      go_wp2_with fail
      refine (at_some 1 (line : Int) 29 (.int .i64 E) W4).mono ?_
      rintro e y5 ⟨rfl, rfl⟩
      rw [HW5.out]
      go_wp2
      obtain ⟨g1, _⟩ := set_far H5.out.1 H1.out.2.2.1 (.int .i64 0) (.slice none 0 0)
      refine bodyPost_ret (parse_res (set_twoG H5.out.2.1 _ _) rfl rfl) rfl ?_
      unfold PsA
      rw [HPE.out.1, HPE.out.2]
      exact ⟨_, none, 0, rfl, told_set H5.out.2.2 H5.out.2.1, g1, World.ownsRow_nil _ _ _ _⟩
  · have HPE : Hid (psE T = rowsE T ∧ psG T = (0, [])) := by
      unfold psE psG
      rw [if_neg hE, if_neg hE]
      exact ⟨rfl, rfl⟩
    have c0 : y1.cell? ⟨z, 0, none⟩ = some (.int .i64 0) := by simp [World.cell?, HY1.out.2.1]
    have c1 : y1.cell? ⟨z, 1, none⟩ = some (.slice none 0 0) := by simp [World.cell?, HY1.out.2.1]
    have f0 : y1.frozen? ⟨z, 0, none⟩ = false := by simp [World.frozen?, HY1.out.2.1]
    have f1 : y1.frozen? ⟨z, 1, none⟩ = false := by simp [World.frozen?, HY1.out.2.1]
    clear hE hQm htd hri hQl
    go_wp2
    obtain ⟨g1, _⟩ := set_far HY1.out.1 H1.out.2.2.1 (.int .i64 0) (.slice none 0 0)
    refine bodyPost_ret (parse_res (set_twoG HY1.out.2.1 _ _) rfl rfl) rfl ?_
    unfold PsA
    rw [HPE.out.1, HPE.out.2]
    exact ⟨_, none, 0, rfl, told_set HY1.out.2.2 HY1.out.2.1, g1, World.ownsRow_nil _ _ _ _⟩
end Go.Proofs.YthgmhhlgjooeaaaGreatDoor.Gt
