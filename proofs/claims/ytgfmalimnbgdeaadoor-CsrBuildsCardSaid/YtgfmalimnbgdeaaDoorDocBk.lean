/- viaductref05.DocBack: the arrays of the graph turned about, or the error. -/
import Derived.Test.YtgfmalimnbgdeaaDoorDocBu
namespace Go.Proofs.YtgfmalimnbgdeaaDoor
open Go.RowKit Go.Extern

attribute [local go_sem] Oper.semAt_some

set_option maxRecDepth 100000 in
set_option maxHeartbeats 4000000 in
theorem docBack_calls (N : Int) (ao : Option Addr) (cap : Nat) (xs : List (Int × Int × Int)) (w : World) (hl : HasArcs w (.slice ao xs.length cap) xs) (hm : xs.length ≤ maxLen) :
    Calls Tryd.prog 15 #[.agg #[.int .i64 N, .slice ao xs.length cap]] w fun e w' => ∃ fo fl fc uo ul uc wo wl wc po pc, e = .returned (.tuple #[.agg #[.slice fo fl fc, .slice uo ul uc, .slice wo wl wc], .agg #[.int .i64 (graphErr N xs).1, .slice po (graphErr N xs).2.length pc]]) ∧ HasPlaces w' (.slice po (graphErr N xs).2.length pc) (graphErr N xs).2 ∧ ((graphErr N xs = (0, []) ∧ HasInts w' (.slice fo fl fc) (firsts N.toNat (normA (xs.map turn))) ∧ HasInts w' (.slice uo ul uc) (tos (normA (xs.map turn))) ∧ HasInts w' (.slice wo wl wc) (weights (normA (xs.map turn)))) ∨ (graphErr N xs ≠ (0, []) ∧ fl = 0 ∧ ul = 0 ∧ wl = 0)) ∧ (NewI w (.slice fo fl fc) ∧ NewI w (.slice uo ul uc) ∧ NewI w (.slice wo wl wc)) ∧ Below w.heap.size w w' := by
  obtain ⟨W0, hW0⟩ : ∃ W0, ((w.alloc (.cells #[.int .i64 N, .slice ao xs.length cap] 24)).alloc (.cells #[.slice none 0 0, .slice none 0 0, .slice none 0 0] 34)).alloc (.cells #[.int .i64 0, .slice none 0 0] 37) = W0 := ⟨_, rfl⟩
  have HW0 : Hid (((w.alloc (.cells #[.int .i64 N, .slice ao xs.length cap] 24)).alloc (.cells #[.slice none 0 0, .slice none 0 0, .slice none 0 0] 34)).alloc (.cells #[.int .i64 0, .slice none 0 0] 37) = W0) := hW0
  have hB0 : Below w.heap.size w W0 := by rw [← hW0]; exact (((Below.refl _ w).alloc (Nat.le_refl _) _).alloc (by simp) _).alloc (by simp <;> omega) _
  have k1 : W0.heap[w.heap.size + 1]? = some (.cells #[.slice none 0 0, .slice none 0 0, .slice none 0 0] 34) := by
    rw [← hW0, Below.heap_alloc _ _ _ (by simp)]
    have h := heap_new (w.alloc (.cells #[.int .i64 N, .slice ao xs.length cap] 24)) (.cells #[.slice none 0 0, .slice none 0 0, .slice none 0 0] 34)
    simpa using h
  have k2 : W0.heap[w.heap.size + 1 + 1]? = some (.cells #[.int .i64 0, .slice none 0 0] 37) := by
    have h := heap_new ((w.alloc (.cells #[.int .i64 N, .slice ao xs.length cap] 24)).alloc (.cells #[.slice none 0 0, .slice none 0 0, .slice none 0 0] 34)) (.cells #[.int .i64 0, .slice none 0 0] 37)
    rw [hW0] at h
    simpa using h
  have HD0 : Hid (DR w W0) := ⟨k1, k2, hB0⟩
  have HOF : Hid (type_of% (docReverse_calls N ao cap xs W0 (hl.keep hB0) hm)) := docReverse_calls N ao cap xs W0 (hl.keep hB0) hm
  have HTC : Hid (type_of% (told_cases N xs)) := told_cases N xs
  have HRB : Hid (∀ (n : Nat) (lo : Option Addr) (lc : Nat) (wx : World), type_of% (rBuild_calls n (normA (xs.map turn)) lo lc wx)) := fun n lo lc wx => rBuild_calls n (normA (xs.map turn)) lo lc wx
  have HFN : Hid (∀ n : Nat, graphErr (n : Int) xs = (0, []) → Fine n (normA (xs.map turn)) ∧ (xs.map turn).length ≤ 262144) := fun n h => ⟨fine_norm (good_turn h), by have := ((good_iff _ _).1 (good_turn h)).1; omega⟩
  clear hl hW0 hB0 k1 k2
  go_enter Tryd.func15, Tryd.ntmps15
  go_wp2_with fail
  rw [HW0.out]
  refine HOF.out.mono ?_
  rintro e w1 ⟨M, lo, m, lc, ys, po, pc, rfl, hA1, hP1, hY, hb1⟩
  have HD1 : Hid (DR w w1) := HD0.out.keep hb1
  have HP1 : Hid (type_of% hP1) := hP1
  have HA1 : Hid (HasArcs w1 (.slice lo m lc) ys) := hA1
  have HY : Hid (type_of% hY) := hY
  clear hA1 hP1 hY hb1
  obtain ⟨C, hC⟩ : ∃ C, (graphErr N xs).1 = C := ⟨_, rfl⟩
  obtain ⟨ps, hps⟩ : ∃ ps, (graphErr N xs).2 = ps := ⟨_, rfl⟩
  have hE : graphErr N xs = (C, ps) := by rw [← hC, ← hps]
  have HE : Hid (graphErr N xs = (C, ps)) := hE
  rw [hE] at HTC HY HP1 ⊢
  simp only at HTC HP1 ⊢
  clear hC hps hE
  have HAL : Hid (Below w1.heap.size w1 ((w1.alloc (.cells #[.int .i64 M, .slice lo m lc] 24)).alloc (.cells #[.int .i64 C, .slice po ps.length pc] 37))) := ((Below.refl _ w1).alloc (Nat.le_refl _) _).alloc (by simp) _
  have HN1 : Hid (((w1.alloc (.cells #[.int .i64 M, .slice lo m lc] 24)).alloc (.cells #[.int .i64 C, .slice po ps.length pc] 37)).heap[w1.heap.size]? = some (.cells #[.int .i64 M, .slice lo m lc] 24)) := by
    show _ = _
    rw [Below.heap_alloc _ _ _ (by simp)]
    exact heap_new _ _
  have HN2 : Hid (((w1.alloc (.cells #[.int .i64 M, .slice lo m lc] 24)).alloc (.cells #[.int .i64 C, .slice po ps.length pc] 37)).heap[w1.heap.size + 1]? = some (.cells #[.int .i64 C, .slice po ps.length pc] 37)) := by
    have h := heap_new (w1.alloc (.cells #[.int .i64 M, .slice lo m lc] 24)) (.cells #[.int .i64 C, .slice po ps.length pc] 37)
    show _ = _
    simpa using h
  go_wp2_with fail
  generalize ((w1.alloc (.cells #[.int .i64 M, .slice lo m lc] 24)).alloc (.cells #[.int .i64 C, .slice po ps.length pc] 37)) = W1 at *
  refine (bad_calls C po ps.length pc W1).mono ?_
  rintro e w2 ⟨rfl, hb2⟩
  have HD2 : Hid (DR w w2) := (HD1.out.keep HAL.out).keep hb2
  have HB2 : Hid (Below w1.heap.size w1 w2) := HAL.out.trans (hb2.mono HAL.out.size)
  have HN3 : Hid (w2.heap[w1.heap.size]? = some (.cells #[.int .i64 M, .slice lo m lc] 24) ∧ w2.heap[w1.heap.size + 1]? = some (.cells #[.int .i64 C, .slice po ps.length pc] 37)) := ⟨(hb2.block _ (lt_of_get HN1.out)).trans HN1.out, (hb2.block _ (lt_of_get HN2.out)).trans HN2.out⟩
  have HW1 : Hid (w.heap.size + 1 + 1 < w1.heap.size) := lt_of_get HD1.out.r2
  clear hb2 HN1 HN2 HAL
  have hlow := HW1.out
  have HBX : Hid (Below w1.heap.size w1 w2) := HB2.out
  obtain ⟨B, hB⟩ : ∃ B, w1.heap.size = B := ⟨_, rfl⟩
  rw [hB] at hlow HN3 ⊢
  clear hB HB2 HW1
  obtain ⟨n0, n1, _, _⟩ := cell_two HN3.out.1
  obtain ⟨e0, e1, _, _⟩ := cell_two HN3.out.2
  have bs := lt_of_get HN3.out.1
  have bs1 := lt_of_get HN3.out.2
  obtain ⟨r0, r1, r2, z0, z1, z2⟩ : w2.cell? ⟨w.heap.size + 1, 0, none⟩ = some (.slice none 0 0) ∧ w2.cell? ⟨w.heap.size + 1, 1, none⟩ = some (.slice none 0 0) ∧ w2.cell? ⟨w.heap.size + 1, 2, none⟩ = some (.slice none 0 0) ∧ w2.frozen? ⟨w.heap.size + 1, 0, none⟩ = false ∧ w2.frozen? ⟨w.heap.size + 1, 1, none⟩ = false ∧ w2.frozen? ⟨w.heap.size + 1, 2, none⟩ = false := by simp [World.cell?, World.frozen?, HD2.out.r1]
  obtain ⟨d0, d1, x0, x1⟩ := cell_two HD2.out.r2
  have rs := lt_of_get HD2.out.r1
  have rs2 := lt_of_get HD2.out.r2
  have q1 : ¬ w.heap.size + 1 = B := by omega
  have q2 : ¬ B = w.heap.size + 1 := by omega
  have q3 : ¬ w.heap.size + 1 + 1 = B := by omega
  have q4 : ¬ B = w.heap.size + 1 + 1 := by omega
  have q5 : ¬ w.heap.size + 1 = B + 1 := by omega
  have q6 : ¬ B + 1 = w.heap.size + 1 := by omega
  have q7 : ¬ w.heap.size + 1 + 1 = B + 1 := by omega
  have q8 : ¬ B + 1 = w.heap.size + 1 + 1 := by omega
  have q9 : ¬ w.heap.size = B := by omega
  have q10 : ¬ B = w.heap.size := by omega
  rcases HTC.out with hgood | ⟨hbad, hbt⟩
  · injection hgood with hC hp
    subst hC
    subst hp
    have hY : M = N ∧ ys = xs.map turn := by
      rcases HY.out with ⟨_, h1, h2⟩ | ⟨h, _⟩
      · exact ⟨h1, h2⟩
      · exact absurd rfl h
    obtain ⟨hNM, hys⟩ := hY
    subst hNM
    subst hys
    obtain ⟨n, rfl⟩ := good_nat HE.out
    obtain rfl : m = (xs.map turn).length := arcs_len HA1.out
    have HFI : Hid (Fine n (normA (xs.map turn)) ∧ (xs.map turn).length ≤ 262144) := HFN.out n HE.out
    have HRO : Hid (∀ wx, Below w2.heap.size w2 wx → Calls Tryd.prog 39 #[.agg #[.int .i64 n, .slice lo (xs.map turn).length lc]] wx fun e w' => ∃ mo mc, e = .returned (.agg #[.int .i64 n, .slice mo (normA (xs.map turn)).length mc]) ∧ HasArcs w' (.slice mo (normA (xs.map turn)).length mc) (normA (xs.map turn)) ∧ Below w2.heap.size w2 w') := fun wx h =>
      (refOf_calls n lo lc (xs.map turn) wx (HA1.out.keep ((HBX.out).trans (h.mono HBX.out.size))) HFI.out.2).mono fun e w' ⟨mo, mc, he, hA, hb⟩ => ⟨mo, mc, he, hA, h.trans (hb.mono h.size)⟩
    have HP2 : Hid (HasPlaces w2 (.slice po ([] : List (Int × Int)).length pc) []) := HP1.out.keep HBX.out
    have HCL : Hid (∀ (mo : Option Addr) (mc : Nat) (wx : World), Below w2.heap.size w2 wx → HasArcs wx (.slice mo (normA (xs.map turn)).length mc) (normA (xs.map turn)) → Calls Tryd.prog 33 #[.agg #[.int .i64 n, .slice mo (normA (xs.map turn)).length mc]] wx fun e w' => ∃ fo fc uo tc wo wc, e = .returned (.agg #[.slice fo (n + 1) fc, .slice uo (normA (xs.map turn)).length tc, .slice wo (normA (xs.map turn)).length wc]) ∧ w'.ownsRow w2.heap.size 3 1 (.slice fo (n + 1) fc) (firsts n (normA (xs.map turn))).length (iv (firsts n (normA (xs.map turn)))) ∧ w'.ownsRow w2.heap.size 3 1 (.slice uo (normA (xs.map turn)).length tc) (tos (normA (xs.map turn))).length (iv (tos (normA (xs.map turn)))) ∧ w'.ownsRow w2.heap.size 3 1 (.slice wo (normA (xs.map turn)).length wc) (weights (normA (xs.map turn))).length (iv (weights (normA (xs.map turn)))) ∧ Below w2.heap.size w2 w') := fun mo mc wx h hA =>
      (HRB.out n mo mc wx hA HFI.out.1).mono fun e w' ⟨fo, fc, uo, tc, wo, wc, he, h1, h2, h3, hb⟩ => ⟨fo, fc, uo, tc, wo, wc, he, iown_base h1 h.size, iown_base h2 h.size, iown_base h3 h.size, h.trans (hb.mono h.size)⟩
    have HKC : Hid (∀ wx, Below w2.heap.size w2 wx → (wx.cell? ⟨B, 0, none⟩ = some (.int .i64 n) ∧ wx.cell? ⟨B, 1, none⟩ = some (.slice lo (xs.map turn).length lc)) ∧ (wx.cell? ⟨B + 1, 0, none⟩ = some (.int .i64 0) ∧ wx.cell? ⟨B + 1, 1, none⟩ = some (.slice po 0 pc)) ∧ (wx.cell? ⟨w.heap.size + 1, 0, none⟩ = some (.slice none 0 0) ∧ wx.cell? ⟨w.heap.size + 1, 1, none⟩ = some (.slice none 0 0) ∧ wx.cell? ⟨w.heap.size + 1, 2, none⟩ = some (.slice none 0 0) ∧ wx.frozen? ⟨w.heap.size + 1, 0, none⟩ = false ∧ wx.frozen? ⟨w.heap.size + 1, 1, none⟩ = false ∧ wx.frozen? ⟨w.heap.size + 1, 2, none⟩ = false) ∧ (wx.cell? ⟨w.heap.size + 1 + 1, 0, none⟩ = some (.int .i64 0) ∧ wx.cell? ⟨w.heap.size + 1 + 1, 1, none⟩ = some (.slice none 0 0) ∧ wx.frozen? ⟨w.heap.size + 1 + 1, 0, none⟩ = false ∧ wx.frozen? ⟨w.heap.size + 1 + 1, 1, none⟩ = false) ∧ w.heap.size + 1 < wx.heap.size ∧ w.heap.size + 1 + 1 < wx.heap.size ∧ B < wx.heap.size ∧ B + 1 < wx.heap.size) := fun wx h => by
      have g1 := (h.block _ (lt_of_get HN3.out.1)).trans HN3.out.1
      have g2 := (h.block _ (lt_of_get HN3.out.2)).trans HN3.out.2
      have g3 := HD2.out.keep h
      exact ⟨⟨(cell_two g1).1, (cell_two g1).2.1⟩, ⟨(cell_two g2).1, (cell_two g2).2.1⟩, by simp [World.cell?, World.frozen?, g3.r1], cell_two g3.r2, lt_of_get g3.r1, lt_of_get g3.r2, lt_of_get g1, lt_of_get g2⟩
    rw [show ((0 : Int) != 0 || decide (0 < ([] : List (Int × Int)).length)) = false from rfl]
    generalize hzs : normA (xs.map turn) = zs at *
    have HZS : Hid (normA (xs.map turn) = zs) := hzs
    obtain ⟨L, hL⟩ : ∃ L, (xs.map turn).length = L := ⟨_, rfl⟩
    rw [hL] at HRO HKC n1 ⊢
    clear hL
    clear hzs
    go_wp2_with fail
    go_region_held3 (fun w' => w'.cell? ⟨B, 0, none⟩ = some (.int .i64 n) ∧ w'.cell? ⟨B, 1, none⟩ = some (.slice lo L lc) ∧ w'.cell? ⟨B + 1, 0, none⟩ = some (.int .i64 0) ∧ w'.cell? ⟨B + 1, 1, none⟩ = some (.slice po 0 pc)) (go_keep) (first
      | (go_at_call 39; refine (HRO.out _ (Below.refl _ w2).drew).mono ?_; rintro e w5 ⟨mo, mc, rfl, hA5, hb5⟩; have H5 : Hid (HasArcs w5 (.slice mo zs.length mc) zs ∧ Below w2.heap.size w2 w5) := ⟨hA5, hb5⟩; clear hA5; clear n0 n1 e0 e1 r0 r1 r2 z0 z1 z2 d0 d1 x0 x1 rs rs2 bs bs1; obtain ⟨⟨n0, n1⟩, ⟨e0, e1⟩, ⟨r0, r1, r2, z0, z1, z2⟩, ⟨d0, d1, x0, x1⟩, rs, rs2, bs, bs1⟩ := HKC.out w5 hb5; clear hb5)
      | (go_at_call 33; refine (HCL.out _ _ _ H5.out.2 H5.out.1).mono ?_; rintro e w3 ⟨fo, fc, uo, tc, wo, wc, rfl, ho1, ho2, ho3, hb3⟩; have H3 : Hid (w3.ownsRow w2.heap.size 3 1 (.slice fo (n + 1) fc) (firsts n zs).length (iv (firsts n zs)) ∧ w3.ownsRow w2.heap.size 3 1 (.slice uo zs.length tc) (tos zs).length (iv (tos zs)) ∧ w3.ownsRow w2.heap.size 3 1 (.slice wo zs.length wc) (weights zs).length (iv (weights zs)) ∧ Below w2.heap.size w2 w3) := ⟨ho1, ho2, ho3, hb3⟩; clear ho1 ho2 ho3; clear n0 n1 e0 e1 r0 r1 r2 z0 z1 z2 d0 d1 x0 x1 rs rs2 bs bs1; obtain ⟨⟨n0, n1⟩, ⟨e0, e1⟩, ⟨r0, r1, r2, z0, z1, z2⟩, ⟨d0, d1, x0, x1⟩, rs, rs2, bs, bs1⟩ := HKC.out w3 hb3; clear hb3))
    all_goals
      go_wp2
      have hD3 := HD2.out.keep H3.out.2.2.2
      have hDE := dend_b hD3.below (.slice fo (n + 1) fc) (.slice uo zs.length tc) (.slice wo zs.length wc) (.int .i64 0) (.slice po 0 pc)
      have hk : ∀ (u : Value) (m : Nat) (vs : List Value), w3.ownsRow w2.heap.size 3 1 u m vs → (((((w3.setCell ⟨w.heap.size + 1, 0, none⟩ (.slice fo (n + 1) fc)).setCell ⟨w.heap.size + 1, 1, none⟩ (.slice uo zs.length tc)).setCell ⟨w.heap.size + 1, 2, none⟩ (.slice wo zs.length wc)).setCell ⟨w.heap.size + 1 + 1, 0, none⟩ (.int .i64 0)).setCell ⟨w.heap.size + 1 + 1, 1, none⟩ (.slice po 0 pc)).ownsRow w2.heap.size 3 1 u m vs := fun u m vs hu => iown_keep hu fun k hk => hDE.1 k (by have := (hu.lt k hk).1; have := lt_of_get HD2.out.r1; omega) (by have := (hu.lt k hk).1; have := lt_of_get HD2.out.r2; omega)
      refine bodyPost_ret (v := .tuple #[.agg #[.slice fo (n + 1) fc, .slice uo zs.length tc, .slice wo zs.length wc], .agg #[.int .i64 0, .slice po 0 pc]]) (by simp [results, Tryd.results15, go_sem, r0, r1, r2, d0, d1]) rfl ?_
      rw [HE.out, HZS.out, Int.toNat_natCast]
      exact ⟨fo, _, fc, uo, _, tc, wo, _, wc, po, pc, rfl, ⟨po, pc, rfl, fun j p hj => by simp at hj⟩, Or.inl ⟨rfl, ints_of_iown (hk _ _ _ H3.out.1), ints_of_iown (hk _ _ _ H3.out.2.1), ints_of_iown (hk _ _ _ H3.out.2.2.1)⟩, ⟨newI_own H3.out.1 HD2.out.below.size, newI_own H3.out.2.1 HD2.out.below.size, newI_own H3.out.2.2.1 HD2.out.below.size⟩, hDE.2.2⟩
  · rw [hbt]
    have HBD : Hid ((C, ps) ≠ ((0 : Int), ([] : List (Int × Int)))) := hbad
    clear hbad hbt
    go_wp2_with fail
    go_region_held (fun w' => w'.cell? ⟨B + 1, 0, none⟩ = some (.int .i64 C) ∧ w'.cell? ⟨B + 1, 1, none⟩ = some (.slice po ps.length pc)) (go_keep) (first | fail)
    all_goals
      go_wp2
      have hDE := dend_a HD2.out.below (.slice none 0 0) (.slice none 0 0) (.slice none 0 0) (.int .i64 C) (.slice po ps.length pc)
      refine bodyPost_ret (v := .tuple #[.agg #[.slice none 0 0, .slice none 0 0, .slice none 0 0], .agg #[.int .i64 C, .slice po ps.length pc]]) (by simp [results, Tryd.results15, go_sem, r0, r1, r2, d0, d1]) rfl ?_
      rw [HE.out]
      exact ⟨none, 0, 0, none, 0, 0, none, 0, 0, po, pc, rfl, (HP1.out.keep HBX.out).far HD2.out.r1 HD2.out.r2 hDE.1 hDE.2.1, Or.inr ⟨HBD.out, rfl, rfl, rfl⟩, ⟨newI_nil _ _ _, newI_nil _ _ _, newI_nil _ _ _⟩, hDE.2.2⟩
end Go.Proofs.YtgfmalimnbgdeaaDoor
