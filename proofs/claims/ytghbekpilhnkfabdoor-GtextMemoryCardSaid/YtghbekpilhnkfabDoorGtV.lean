/- the reference's number of a row, walked. -/
import Derived.Test.YtghbekpilhnkfabDoorGtU
namespace Go.Proofs.YtghbekpilhnkfabDoor.Gt
open Go Go.Lib Go.RowKit Go.Extern Hi

attribute [local go_sem] Oper.semAt_some

def nuE (v : By) (most : Nat) (er : Int) (ln : Nat) : Int × List (Int × Int) := if bnE v (most + 1) er = 0 then (0, []) else (bnE v (most + 1) er, [(1, (ln : Int))])
def NuA (v : By) (most : Nat) (er : Int) (ln : Nat) (w : World) (e : Ending) (w' : World) : Prop := ∃ u, e = .returned (.tuple #[.int .i64 (bnV v (most + 1) er), u]) ∧ IsRef w' (nuE v most er ln) u ∧ Below w.heap.size w w'
theorem num_cases (v : By) (most : Nat) (er : Int) (her : er ≠ 0) : (numE v most = 0 ∧ bnE v (most + 1) er = 0 ∧ bnV v (most + 1) er = (val v : Int) ∧ val v ≤ most) ∨ (numE v most = 1 ∧ bnE v (most + 1) er = er ∧ bnV v (most + 1) er = 0) ∨ (numE v most = 4 ∧ bnE v (most + 1) er = 4 ∧ bnV v (most + 1) er = 0) := by
  by_cases h1 : isNum v = true
  · by_cases h2 : most < val v
    · have e : bnE v (most + 1) er = er := by unfold bnE; rw [if_pos h1, if_neg (by omega)]
      exact Or.inr (Or.inl ⟨by unfold numE; rw [if_pos h1, if_pos h2], e, by unfold bnV; rw [e, if_neg her]⟩)
    · have e : bnE v (most + 1) er = 0 := by unfold bnE; rw [if_pos h1, if_pos (by omega)]
      exact Or.inl ⟨by unfold numE; rw [if_pos h1, if_neg h2], e, by unfold bnV; rw [if_pos e], by omega⟩
  · have e : bnE v (most + 1) er = 4 := by unfold bnE; rw [if_neg h1]
    exact Or.inr (Or.inr ⟨by unfold numE; rw [if_neg h1], e, by unfold bnV; rw [e, if_neg (by decide)]⟩)
theorem num_res {W : World} {z : Nat} {v x0 x1 : Value} {tmps : Array Value} (h1 : W.heap[z]? = some (.cells #[x0, x1] 35)) (t2 : tmps[9]?.getD undef = .pointer (some ⟨z, 0, none⟩)) (t3 : tmps[8]?.getD undef = v) :
    (results Tryd.f41 tmps).run Tryd.prog W = .ok (.tuple #[v, .agg #[x0, x1]]) W := by
  have c0 : W.cell? ⟨z, 0, none⟩ = some x0 := by simp [World.cell?, h1]
  have c1 : W.cell? ⟨z, 1, none⟩ = some x1 := by simp [World.cell?, h1]
  simp [results, Tryd.results41, go_sem, t2, t3, c0, c1]

set_option maxRecDepth 100000 in
set_option maxHeartbeats 4000000 in
theorem rnum_calls (w : World) (ln A lc : Nat) (X : List ByteArray) (i most : Nat) (er : Int) (x : ByteArray) (h : StR w (ln, A, lc, X)) (hf : FewR (ln, A, lc, X)) (hi : X[i]? = some x) (hm : most < 4294967296) (her : er ≠ 0) :
    Calls Tryd.prog 41 #[.agg #[.int .i64 (ln : Int), .slice (some ⟨A, 0, none⟩) X.length lc], .int .i64 (i : Int), .int .u64 (most : Int), .int .i64 er] w (NuA (bs x) most er ln w) := by
  obtain ⟨rb, hrb⟩ : ∃ rb, w.heap.size = rb := ⟨_, rfl⟩
  obtain ⟨z, hz⟩ : ∃ z, rb + 1 = z := ⟨_, rfl⟩
  obtain ⟨W1, hW1⟩ : ∃ W1, (w.alloc (.cells #[.int .i64 (ln : Int), .slice (some ⟨A, 0, none⟩) X.length lc] 103)).alloc (.cells #[.int .i64 0, .slice none 0 0] 35) = W1 := ⟨_, rfl⟩
  have HW1 : Hid ((w.alloc (.cells #[.int .i64 (ln : Int), .slice (some ⟨A, 0, none⟩) X.length lc] 103)).alloc (.cells #[.int .i64 0, .slice none 0 0] 35) = W1) := hW1
  have n1 : W1.heap[rb]? = some (.cells #[.int .i64 (ln : Int), .slice (some ⟨A, 0, none⟩) X.length lc] 103) := by rw [← hW1, ← hrb]; exact (Below.heap_alloc _ _ _ (by simp)).trans (heap_newG _ _)
  have n0 : W1.heap[z]? = some (.cells #[.int .i64 0, .slice none 0 0] 35) := by
    have g := heap_newG (w.alloc (.cells #[.int .i64 (ln : Int), .slice (some ⟨A, 0, none⟩) X.length lc] 103)) (.cells #[.int .i64 0, .slice none 0 0] 35)
    rw [World.size_alloc, hW1, hrb, hz] at g
    exact g
  have hb1 : Below w.heap.size w W1 := by rw [← hW1]; exact ((Below.refl _ _).alloc (Nat.le_refl _) _).alloc (by simp) _
  have H1 : Hid (Below w.heap.size w W1 ∧ W1.heap[z]? = some (.cells #[.int .i64 0, .slice none 0 0] 35) ∧ w.heap.size ≤ z ∧ z < W1.heap.size) := ⟨hb1, n0, by omega, (Array.getElem?_eq_some_iff.1 n0).1⟩
  have HZ : Hid (∀ Y, Below W1.heap.size W1 Y → Y.heap[z]? = some (.cells #[.int .i64 0, .slice none 0 0] 35)) := fun Y hY => (hY.block _ H1.out.2.2.2).trans H1.out.2.1
  have HCL : Hid (∀ Y, Below W1.heap.size W1 Y → Y.cell? ⟨z, 0, none⟩ = some (.int .i64 0) ∧ Y.cell? ⟨z, 1, none⟩ = some (.slice none 0 0) ∧ Y.frozen? ⟨z, 0, none⟩ = false ∧ Y.frozen? ⟨z, 1, none⟩ = false) := fun Y hY => by
    have g := HZ.out Y hY
    exact ⟨by simp [World.cell?, g], by simp [World.cell?, g], by simp [World.frozen?, g], by simp [World.frozen?, g]⟩
  have rl : rb < W1.heap.size := (Array.getElem?_eq_some_iff.1 n1).1
  have HSS : Hid (∀ Y, Below W1.heap.size W1 Y → Y.cell? ⟨rb, 0, none⟩ = some (.int .i64 (ln : Int))) := fun Y hY => by
    have g := (hY.block _ rl).trans n1
    simp [World.cell?, g]
  obtain ⟨⟨cur, s1, s2⟩, s3⟩ := h
  have hil := (List.getElem?_eq_some_iff.1 hi).1
  have d1 : W1.cell? ⟨rb, 1, none⟩ = some (.slice (some ⟨A, 0, none⟩) X.length lc) := by simp [World.cell?, n1]
  have al : A < w.heap.size := (Array.getElem?_eq_some_iff.1 s1).1
  have a0 : W1.cell? ⟨A, i, none⟩ = some (.string x) := (hb1.cell (p := ⟨A, i, none⟩) al).trans (by have := s2 i x hi; simp [World.cell?, s1, this])
  have al1 : A < W1.heap.size := Nat.lt_of_lt_of_le al hb1.size
  have i0 : (0 : Int) ≤ (i : Int) := by omega
  have i1 : (i : Int) < (X.length : Int) := by omega
  have hxs : x.size ≤ 200 := hf.2.2 x (List.mem_of_getElem? hi)
  have hX2 : X.length ≤ 200 := hf.2.1
  have HN : Hid (Calls Tryd.prog 58 #[.string x, .int .u64 (most : Int)] W1 _) := docNumber_calls x most W1 (by omega) (by omega)
  clear hW1 n0 n1 hb1 s1 s2 s3 hf hi al
  go_enter Tryd.func41, Tryd.ntmps41
  go_upto_region 1 with fail
  rw [HW1.out]
  try rw [hrb, hz]
  go_wp2_with fail
  refine HN.out.mono ?_
  rintro e y1 ⟨rfl, hy1⟩
  unfold errR
  obtain ⟨c, hc⟩ : ∃ c, numE (bs x) most = c := ⟨_, rfl⟩
  rw [hc]
  obtain ⟨V, hV⟩ : ∃ V : Int, (if c = 0 then (val (bs x) : Int) else 0) = V := ⟨_, rfl⟩
  rw [hV]
  have HV : Hid ((if c = 0 then (val (bs x) : Int) else 0) = V) := hV
  clear hV
  obtain ⟨eb, heb⟩ : ∃ eb, y1.heap.size = eb := ⟨_, rfl⟩
  obtain ⟨W2, hW2⟩ : ∃ W2, y1.alloc (.cells #[.int .i64 c, .slice none 0 0] 35) = W2 := ⟨_, rfl⟩
  have HW2 : Hid (y1.alloc (.cells #[.int .i64 c, .slice none 0 0] 35) = W2) := hW2
  have m0 : W2.heap[eb]? = some (.cells #[.int .i64 c, .slice none 0 0] 35) := by rw [← hW2, ← heb]; exact heap_newG _ _
  have hb2 : Below W1.heap.size W1 W2 := by rw [← hW2]; exact hy1.alloc hy1.size _
  have el : eb < W2.heap.size := (Array.getElem?_eq_some_iff.1 m0).1
  have HEB : Hid (∀ Y, Below W2.heap.size W2 Y → Y.heap[eb]? = some (.cells #[.int .i64 c, .slice none 0 0] 35)) := fun Y hY => (hY.block _ el).trans m0
  have e0 : W2.cell? ⟨eb, 0, none⟩ = some (.int .i64 c) := by simp [World.cell?, m0]
  have e1 : W2.cell? ⟨eb, 1, none⟩ = some (.slice none 0 0) := by simp [World.cell?, m0]
  have H2 : Hid (Below W1.heap.size W1 W2 ∧ W1.heap.size ≤ eb) := ⟨hb2, by have := hy1.size; omega⟩
  have HC : Hid (numE (bs x) most = c) := hc
  clear hW2 m0 hb2 hy1 hc
  go_upto_region 2 with fail
  rw [HW2.out]
  try rw [heb]
  go_wp2_with fail
  refine (bad_calls c none 0 0 W2).mono ?_
  rintro e9 y3 ⟨rfl, hy3⟩
  have HY3 : Hid (Below W2.heap.size W2 y3 ∧ Below W1.heap.size W1 y3) := ⟨hy3, btrG H2.out.1 hy3⟩
  have m3 := HEB.out y3 hy3
  have t0 : y3.cell? ⟨eb, 0, none⟩ = some (.int .i64 c) := by simp [World.cell?, m3]
  have t1 : y3.cell? ⟨eb, 1, none⟩ = some (.slice none 0 0) := by simp [World.cell?, m3]
  have t2 : y3.frozen? ⟨eb, 0, none⟩ = false := by simp [World.frozen?, m3]
  have t3 : y3.frozen? ⟨eb, 1, none⟩ = false := by simp [World.frozen?, m3]
  have r0 := HSS.out y3 HY3.out.2
  have HM3 : Hid (y3.heap[eb]? = some (.cells #[.int .i64 c, .slice none 0 0] 35)) := m3
  clear hy3 e0 e1 m3
  rcases num_cases (bs x) most er her with q | q | q
  · have HQ : Hid (numE (bs x) most = 0 ∧ bnE (bs x) (most + 1) er = 0 ∧ bnV (bs x) (most + 1) er = (val (bs x) : Int) ∧ val (bs x) ≤ most) := q
    have hc0 : c = 0 := by rw [← HC.out]; exact q.1
    subst hc0
    have hV0 : V = (val (bs x) : Int) := by rw [← HV.out]; rfl
    have hw9 : IntKind.i64.wrap V = V := by have := q.2.2.2; rw [IntKind.wrap_i64] <;> omega
    obtain ⟨c0, c1, f0, f1⟩ := HCL.out y3 HY3.out.2
    have HVV : Hid (V = (val (bs x) : Int)) := hV0
    clear hV0 q
    go_upto_region 3 with fail
    go_region
    go_wp2
    refine bodyPost_ret (num_res (set_twoG (HZ.out y3 HY3.out.2) _ _) rfl rfl) rfl ?_
    unfold NuA nuE
    rw [HQ.out.2.1, HQ.out.2.2.1, if_pos rfl, ← HVV.out]
    exact ⟨_, rfl, ⟨none, 0, rfl, places_nil _⟩, (set_far (H1.out.1.trans (HY3.out.2.mono H1.out.1.size)) H1.out.2.2.1 _ _).1.drew⟩
  · have HQ : Hid (numE (bs x) most = 1 ∧ bnE (bs x) (most + 1) er = er ∧ bnV (bs x) (most + 1) er = 0) := q
    have hc0 : c = 1 := by rw [← HC.out]; exact q.1
    subst hc0
    clear q
    go_wp2_with fail
    refine (E_calls er y3).mono ?_
    rintro e9 y4 ⟨rfl, hy4⟩
    have m4 := (hy4.block _ (Array.getElem?_eq_some_iff.1 HM3.out).1).trans HM3.out
    have v0 : y4.cell? ⟨eb, 0, none⟩ = some (.int .i64 1) := by simp [World.cell?, m4]
    have v1 : y4.cell? ⟨eb, 1, none⟩ = some (.slice none 0 0) := by simp [World.cell?, m4]
    have v2 : y4.frozen? ⟨eb, 0, none⟩ = false := by simp [World.frozen?, m4]
    have v3 : y4.frozen? ⟨eb, 1, none⟩ = false := by simp [World.frozen?, m4]
    obtain ⟨W5, hW5⟩ : ∃ W5, (y4.setCell ⟨eb, 0, none⟩ (.int .i64 er)).setCell ⟨eb, 1, none⟩ (.slice none 0 0) = W5 := ⟨_, rfl⟩
    have m5 : W5.heap[eb]? = some (.cells #[.int .i64 er, .slice none 0 0] 35) := by rw [← hW5]; exact set_twoG m4 _ _
    have HB5 : Hid (Below W1.heap.size W1 W5) := by rw [← hW5]; exact (set_far (btrG HY3.out.2 hy4) H2.out.2 _ _).1
    have x0 : W5.cell? ⟨eb, 0, none⟩ = some (.int .i64 er) := by simp [World.cell?, m5]
    have x1 : W5.cell? ⟨eb, 1, none⟩ = some (.slice none 0 0) := by simp [World.cell?, m5]
    have x2 := HSS.out W5 HB5.out
    clear m4 m5 hy4
    go_wp2_with fail
    refine (refAt_calls 1 (ln : Int) er W5).mono ?_
    rintro e9 y6 ⟨pg, rfl, hpg, hy6⟩
    have hb6 : Below W1.heap.size W1 y6 := btrG HB5.out hy6
    obtain ⟨c0, c1, f0, f1⟩ := HCL.out y6 hb6
    have HPG : Hid (y6.heap[pg]? = some (.cells #[.int .i64 1, .int .i64 (ln : Int)] 77) ∧ Below W1.heap.size W1 y6) := ⟨hpg, hb6⟩
    clear hpg hb6 hy6 hW5
    go_wp2
    refine bodyPost_ret (num_res (set_twoG (HZ.out y6 HPG.out.2) _ _) rfl rfl) rfl ?_
    obtain ⟨g1, g2⟩ := ref_at (c := er) H1.out.1 HPG.out.2 (HZ.out y6 HPG.out.2) H1.out.2.2.1 HPG.out.1
    unfold NuA nuE
    rw [HQ.out.2.1, HQ.out.2.2, if_neg her]
    exact ⟨_, rfl, g1, g2⟩
  · have HQ : Hid (numE (bs x) most = 4 ∧ bnE (bs x) (most + 1) er = 4 ∧ bnV (bs x) (most + 1) er = 0) := q
    have hc0 : c = 4 := by rw [← HC.out]; exact q.1
    subst hc0
    clear q
    go_wp2_with fail
    refine (refAt_calls 1 (ln : Int) 4 y3).mono ?_
    rintro e9 y6 ⟨pg, rfl, hpg, hy6⟩
    have hb6 : Below W1.heap.size W1 y6 := btrG HY3.out.2 hy6
    obtain ⟨c0, c1, f0, f1⟩ := HCL.out y6 hb6
    have HPG : Hid (y6.heap[pg]? = some (.cells #[.int .i64 1, .int .i64 (ln : Int)] 77) ∧ Below W1.heap.size W1 y6) := ⟨hpg, hb6⟩
    clear hpg hb6 hy6
    go_wp2
    refine bodyPost_ret (num_res (set_twoG (HZ.out y6 HPG.out.2) _ _) rfl rfl) rfl ?_
    obtain ⟨g1, g2⟩ := ref_at (c := 4) H1.out.1 HPG.out.2 (HZ.out y6 HPG.out.2) H1.out.2.2.1 HPG.out.1
    unfold NuA nuE
    rw [HQ.out.2.1, HQ.out.2.2, if_neg (by decide)]
    exact ⟨_, rfl, g1, g2⟩
end Go.Proofs.YtghbekpilhnkfabDoor.Gt
