/- the reference's DocParse, walked. -/
import Derived.Test.YtghbekpilhnkfabDoorGtX
namespace Go.Proofs.YtghbekpilhnkfabDoor.Gt
open Go Go.Lib Go.RowKit Go.Extern Hi

attribute [local go_sem] Oper.semAt_some

def DpA (t : By) (w : World) (e : Ending) (w' : World) : Prop := ∃ (u : Value) (ao : Option Addr) (ac : Nat), e = .returned (.tuple #[.agg #[.int .i64 ((psG t).1 : Int), .slice ao (psG t).2.length ac], u]) ∧ IsRef w' (psE t) u ∧ Below w.heap.size w w' ∧ w'.ownsRow w.heap.size 42 3 (.slice ao (psG t).2.length ac) (psG t).2.length (acs (psG t).2)
theorem rowsE_ne {t : By} (h : rowsE t ≠ (0, [])) : (rowsE t).1 ≠ 0 := by
  unfold rowsE at h ⊢
  split
  · decide
  · rename_i h1
    rw [if_neg h1] at h
    split
    · rename_i h2
      rw [if_pos h2] at h
      exact absurd rfl h
    · rename_i h2
      exact h2
theorem dp_res {W : World} {z1 z2 : Nat} {a b x0 x1 : Value} {tmps : Array Value} (h1 : W.heap[z1]? = some (.cells #[a, b] 24)) (h2 : W.heap[z2]? = some (.cells #[x0, x1] 35)) (t1 : tmps[2]?.getD undef = .pointer (some ⟨z1, 0, none⟩)) (t2 : tmps[3]?.getD undef = .pointer (some ⟨z2, 0, none⟩)) :
    (results Tryd.f11 tmps).run Tryd.prog W = .ok (.tuple #[.agg #[a, b], .agg #[x0, x1]]) W := by
  have c0 : W.cell? ⟨z1, 0, none⟩ = some a := by simp [World.cell?, h1]
  have c1 : W.cell? ⟨z1, 1, none⟩ = some b := by simp [World.cell?, h1]
  have d0 : W.cell? ⟨z2, 0, none⟩ = some x0 := by simp [World.cell?, h2]
  have d1 : W.cell? ⟨z2, 1, none⟩ = some x1 := by simp [World.cell?, h2]
  simp [results, Tryd.results11, go_sem, t1, t2, c0, c1, d0, d1]
theorem dp_bad {t : By} {w W : World} {l2 : Nat} {lo : Option Addr} (h : rowsE t ≠ (0, [])) (hp : RefPl W (.slice lo (rowsE t).2.length l2) (rowsE t).2) (hb : Below w.heap.size w W) : DpA t w (.returned (.tuple #[.agg #[.int .i64 0, .slice none 0 0], .agg #[.int .i64 (rowsE t).1, .slice lo (rowsE t).2.length l2]])) W := by
  have e : psE t = rowsE t := by unfold psE; rw [if_neg h]
  have g : psG t = (0, []) := by unfold psG; rw [if_neg h]
  exact ⟨_, none, 0, by rw [g]; rfl, by rw [e]; exact ⟨_, _, rfl, hp⟩, hb, by rw [g]; exact World.ownsRow_nil _ _ _ _⟩

set_option maxRecDepth 100000 in
set_option maxHeartbeats 8000000 in
theorem docParse_calls (s : ByteArray) (w : World) (hs : s.size ≤ 281474976710656) : Calls Tryd.prog 11 #[.string s] w (DpA (bs s) w) := by
  obtain ⟨z1, hz1⟩ : ∃ z1, w.heap.size = z1 := ⟨_, rfl⟩
  obtain ⟨z2, hz2⟩ : ∃ z2, z1 + 1 = z2 := ⟨_, rfl⟩
  obtain ⟨W1, hW1⟩ : ∃ W1, (w.alloc (.cells #[.int .i64 0, .slice none 0 0] 24)).alloc (.cells #[.int .i64 0, .slice none 0 0] 35) = W1 := ⟨_, rfl⟩
  have HW1 : Hid ((w.alloc (.cells #[.int .i64 0, .slice none 0 0] 24)).alloc (.cells #[.int .i64 0, .slice none 0 0] 35) = W1) := hW1
  have hb1 : Below w.heap.size w W1 := by rw [← hW1]; exact ((Below.refl _ _).alloc (Nat.le_refl _) _).alloc (by simp) _
  have HA1 : Hid (DgS w z1 z2 W1) := by
    refine ⟨hb1, ?_, ?_, by omega, by omega⟩
    · rw [← hW1, ← hz1]; exact (Below.heap_alloc _ _ _ (by simp)).trans (heap_newG _ _)
    · have g := heap_newG (w.alloc (.cells #[.int .i64 0, .slice none 0 0] 24)) (.cells #[.int .i64 0, .slice none 0 0] 35)
      rw [World.size_alloc, hz1, hz2, hW1] at g
      exact g
  have HRC : Hid (Calls Tryd.prog 27 #[.string s] W1 (DrA (bs s) W1)) := docRows_calls s W1 hs
  obtain ⟨T, hT⟩ : ∃ T, bs s = T := ⟨_, rfl⟩
  rw [hT] at HRC ⊢
  clear hW1 hb1 hT
  go_enter Tryd.func11, Tryd.ntmps11
  go_upto_region 1 with fail
  rw [HW1.out]
  try rw [hz1, hz2]
  go_wp2_with fail
  refine HRC.out.mono ?_
  rintro e x1 ⟨u, ro, rc, Q, rfl, ⟨lo, l2, rfl, hp⟩, hown, hst, hfw, hx1, hQl, hQm⟩
  have HX1 : Hid (DgS w z1 z2 x1) := HA1.out.up hx1
  obtain ⟨eb, heb⟩ : ∃ eb, x1.heap.size = eb := ⟨_, rfl⟩
  by_cases hE : rowsE T = (0, [])
  · rw [hE] at hp ⊢
    rw [hE, if_pos rfl] at hQm
    obtain ⟨W2, hW2⟩ : ∃ W2, x1.alloc (.cells #[.int .i64 0, .slice lo 0 l2] 35) = W2 := ⟨_, rfl⟩
    have HW2 : Hid (x1.alloc (.cells #[.int .i64 0, .slice lo 0 l2] 35) = W2) := hW2
    have b2 : Below x1.heap.size x1 W2 := by rw [← hW2]; exact (Below.refl _ _).alloc (Nat.le_refl _) _
    have m2 : W2.heap[eb]? = some (.cells #[.int .i64 0, .slice lo 0 l2] 35) := by rw [← hW2, ← heb]; exact heap_newG _ _
    have e0 : W2.cell? ⟨eb, 0, none⟩ = some (.int .i64 0) := by simp [World.cell?, m2]
    have e1 : W2.cell? ⟨eb, 1, none⟩ = some (.slice lo 0 l2) := by simp [World.cell?, m2]
    have HS : Hid (DgS w z1 z2 W2 ∧ W2.ownsRow W1.heap.size 103 2 (.slice ro Q.length rc) Q.length (rcsR Q) ∧ (∀ q ∈ Q, StR W2 q) ∧ (∀ q ∈ Q, FewR q) ∧ Q.length ≤ 1048577) := ⟨HX1.out.up b2, rownR_keep hown fun _ _ hh => (b2.block _ (Array.getElem?_eq_some_iff.1 hh).1).trans hh, fun q hq => ⟨(hst q hq).1.keep b2, (hst q hq).2⟩, hfw, hQl⟩
    have HPS : Hid (psE T = gE (Q.map rowOfR) ∧ psG T = (gR (Q.map rowOfR)).2) := by
      unfold psE psG gE
      rw [if_pos hE, if_pos hE, hQm]
      exact ⟨rfl, rfl⟩
    clear hp hown hst hfw hQm hW2 b2 m2 hx1 hE hQl
    go_upto_region 2 with fail
    rw [HW2.out]
    try rw [heb]
    go_wp2_with fail
    refine (bad_calls 0 lo 0 l2 W2).mono ?_
    rintro e9 x3 ⟨rfl, hx3⟩
    have HS3 : Hid (DgS w z1 z2 x3 ∧ Calls Tryd.prog 28 #[.slice ro Q.length rc] x3 (DgA (Q.map rowOfR) x3)) := by
      obtain ⟨s1, s2, s3, s4, s5⟩ := HS.out
      exact ⟨s1.up hx3, docGraph_calls x3 W1.heap.size rc ro Q (rownR_keep s2 fun _ _ hh => (hx3.block _ (Array.getElem?_eq_some_iff.1 hh).1).trans hh) (fun q hq => ⟨(s3 q hq).1.keep hx3, (s3 q hq).2⟩) s4 s5⟩
    obtain ⟨R, hR⟩ : ∃ R, Q.map rowOfR = R := ⟨_, rfl⟩
    rw [hR] at HS3 HPS
    clear hx3 e0 e1 hR
    go_wp2_with fail
    refine HS3.out.2.mono ?_
    rintro e9 x4 ⟨v, ao, ac, rfl, ⟨lp, l3, rfl, hp⟩, hown, hx4⟩
    have G4 : Hid (DgS w z1 z2 x4 ∧ RefPl x4 (.slice lp (gE R).2.length l3) (gE R).2 ∧ x4.ownsRow x3.heap.size 42 3 (.slice ao (gR R).2.2.length ac) (gR R).2.2.length (acs (gR R).2.2) ∧ w.heap.size ≤ x3.heap.size) := ⟨HS3.out.1.up hx4, hp, hown, HS3.out.1.bel.size⟩
    obtain ⟨c, hc⟩ : ∃ c, (gE R).1 = c := ⟨_, rfl⟩
    obtain ⟨ps, hps⟩ : ∃ ps, (gE R).2 = ps := ⟨_, rfl⟩
    obtain ⟨N, hN⟩ : ∃ N, (gR R).2.1 = N := ⟨_, rfl⟩
    obtain ⟨A, hA⟩ : ∃ A, (gR R).2.2 = A := ⟨_, rfl⟩
    rw [hc, hps, hN, hA]
    rw [hps, hA] at G4
    have HE9 : Hid (psE T = (c, ps) ∧ psG T = (N, A)) := ⟨by rw [HPS.out.1, ← hc, ← hps], by rw [HPS.out.2, ← hN, ← hA]⟩
    obtain ⟨pl, hpl⟩ : ∃ pl, ps.length = pl := ⟨_, rfl⟩
    obtain ⟨al, hal⟩ : ∃ al, A.length = al := ⟨_, rfl⟩
    have HLL : Hid (ps.length = pl ∧ A.length = al) := ⟨hpl, hal⟩
    rw [hpl, hal]
    rw [hpl, hal] at G4
    clear hc hps hN hA hp hown hx4 hpl hal
    obtain ⟨y0, y1, y3, y4, g0, g1, g3, g4⟩ := G4.out.1.cl
    obtain ⟨q1, q2⟩ := G4.out.1.ne
    go_wp2
    have gF := dg_fin1 G4.out.1 (.int .i64 (N : Int)) (.slice ao al ac) (.int .i64 c) (.slice lp pl l3) G4.out.2.1
    refine bodyPost_ret (dp_res (z1 := z1) (z2 := z2) (a := .int .i64 (N : Int)) (b := .slice ao al ac) (x0 := .int .i64 c) (x1 := .slice lp pl l3) (by with_reducible exact gF.1) (by with_reducible exact gF.2.1) rfl rfl) rfl ?_
    unfold DpA
    rw [HE9.out.1, HE9.out.2]
    obtain ⟨l1, l2⟩ := HLL.out
    show ∃ (u : Value) (ao : Option Addr) (ac : Nat), _ = Ending.returned (.tuple #[.agg #[.int .i64 (N : Int), .slice ao A.length ac], u]) ∧ _
    rw [l2]
    refine ⟨_, ao, ac, rfl, ⟨lp, l3, by show _ = Value.agg #[.int .i64 c, .slice lp ps.length l3]; rw [l1], by show RefPl _ (.slice lp ps.length l3) ps; rw [l1]; exact gF.2.2.2⟩, gF.2.2.1, ?_⟩
    obtain ⟨k1, k2⟩ := set_far G4.out.1.bel G4.out.1.lt.1 (.int .i64 (N : Int)) (.slice ao al ac)
    obtain ⟨k3, k4⟩ := set_far k1 G4.out.1.lt.2 (.int .i64 c) (.slice lp pl l3)
    have ho := aown_keep G4.out.2.2.1 (w' := (((x4.setCell ⟨z1, 0, none⟩ (.int .i64 (N : Int))).setCell ⟨z1, 1, none⟩ (.slice ao al ac)).setCell ⟨z2, 0, none⟩ (.int .i64 c)).setCell ⟨z2, 1, none⟩ (.slice lp pl l3)) fun k cur hh => (k4 k (at_ne hh G4.out.1.r2 dg_ne.2.2.2.2.1)).trans ((k2 k (at_ne hh G4.out.1.r1 dg_ne.2.2.2.1)).trans hh)
    rcases ho.2 with ⟨e, h0⟩ | ⟨g9, cap, cur, e, hg, r⟩
    · exact ⟨ho.1, .inl ⟨e, h0⟩⟩
    · exact ⟨ho.1, .inr ⟨g9, cap, cur, e, Nat.le_trans G4.out.2.2.2 hg, r⟩⟩
  · have hc := rowsE_ne hE
    have HE : Hid (rowsE T ≠ (0, [])) := hE
    obtain ⟨c, hcc⟩ : ∃ c, (rowsE T).1 = c := ⟨_, rfl⟩
    obtain ⟨k, hk⟩ : ∃ k, (rowsE T).2.length = k := ⟨_, rfl⟩
    rw [hcc] at hc
    rw [hcc, hk]
    have HCK : Hid ((rowsE T).1 = c ∧ (rowsE T).2.length = k) := ⟨hcc, hk⟩
    rw [hk] at hp
    have cb : (c != 0) = true := by simpa using hc
    obtain ⟨W2, hW2⟩ : ∃ W2, x1.alloc (.cells #[.int .i64 c, .slice lo k l2] 35) = W2 := ⟨_, rfl⟩
    have HW2 : Hid (x1.alloc (.cells #[.int .i64 c, .slice lo k l2] 35) = W2) := hW2
    have b2 : Below x1.heap.size x1 W2 := by rw [← hW2]; exact (Below.refl _ _).alloc (Nat.le_refl _) _
    have m2 : W2.heap[eb]? = some (.cells #[.int .i64 c, .slice lo k l2] 35) := by rw [← hW2, ← heb]; exact heap_newG _ _
    have e0 : W2.cell? ⟨eb, 0, none⟩ = some (.int .i64 c) := by simp [World.cell?, m2]
    have e1 : W2.cell? ⟨eb, 1, none⟩ = some (.slice lo k l2) := by simp [World.cell?, m2]
    have HS : Hid (DgS w z1 z2 W2 ∧ RefPl W2 (.slice lo k l2) (rowsE T).2 ∧ W2.heap[eb]? = some (.cells #[.int .i64 c, .slice lo k l2] 35)) := ⟨HX1.out.up b2, hp.keep b2, m2⟩
    clear hp hown hst hfw hQm hW2 b2 m2 hx1 hE hQl hcc hk hc
    go_upto_region 2 with fail
    rw [HW2.out]
    try rw [heb]
    go_wp2_with fail
    refine (bad_calls c lo k l2 W2).mono ?_
    rintro e9 x3 ⟨rfl, hx3⟩
    have HS3 : Hid (DgS w z1 z2 x3 ∧ RefPl x3 (.slice lo k l2) (rowsE T).2 ∧ x3.heap[eb]? = some (.cells #[.int .i64 c, .slice lo k l2] 35)) := ⟨HS.out.1.up hx3, HS.out.2.1.keep hx3, (hx3.block _ (Array.getElem?_eq_some_iff.1 HS.out.2.2).1).trans HS.out.2.2⟩
    have m3 := HS3.out.2.2
    clear hx3 e0 e1
    have e0 : x3.cell? ⟨eb, 0, none⟩ = some (.int .i64 c) := by simp [World.cell?, m3]
    have e1 : x3.cell? ⟨eb, 1, none⟩ = some (.slice lo k l2) := by simp [World.cell?, m3]
    obtain ⟨y0, y1, y3, y4, g0, g1, g3, g4⟩ := HS3.out.1.cl
    obtain ⟨q1, q2⟩ := HS3.out.1.ne
    have k1 := at_ne m3 HS3.out.1.r1 dg_ne.1
    have k2 := Ne.symm k1
    clear m3
    go_upto_region 3 with fail
    go_region
    go_wp2
    all_goals first
     | (have gF := dg_fin1d HS3.out.1 (.int .i64 0) (.slice none 0 0) (.int .i64 c) (.slice lo k l2) HS3.out.2.1
        refine bodyPost_ret (dp_res (z1 := z1) (z2 := z2) (a := .int .i64 0) (b := .slice none 0 0) (x0 := .int .i64 c) (x1 := .slice lo k l2) (by with_reducible exact gF.1) (by with_reducible exact gF.2.1) rfl rfl) rfl ?_
        obtain ⟨h8, h9⟩ := HCK.out
        subst h8 h9
        exact dp_bad HE.out gF.2.2.2 gF.2.2.1)
     | (have gF := dg_fin2d HS3.out.1 (.int .i64 0) (.slice none 0 0) (.int .i64 c) (.slice lo k l2) HS3.out.2.1
        refine bodyPost_ret (dp_res (z1 := z1) (z2 := z2) (a := .int .i64 0) (b := .slice none 0 0) (x0 := .int .i64 c) (x1 := .slice lo k l2) (by with_reducible exact gF.1) (by with_reducible exact gF.2.1) rfl rfl) rfl ?_
        obtain ⟨h8, h9⟩ := HCK.out
        subst h8 h9
        exact dp_bad HE.out gF.2.2.2 gF.2.2.1)
end Go.Proofs.YtghbekpilhnkfabDoor.Gt
