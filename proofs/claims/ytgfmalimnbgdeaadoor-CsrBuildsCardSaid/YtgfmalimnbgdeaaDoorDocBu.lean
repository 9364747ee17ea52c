/- viaductref05.DocBuild and DocBack: the arrays, or the error. -/
import Derived.Test.YtgfmalimnbgdeaaDoorRefBuW
import Derived.Test.YtgfmalimnbgdeaaDoorDocOf
import Derived.Deep.RegionWith
namespace Go.Proofs.YtgfmalimnbgdeaaDoor
open Go.RowKit Go.Extern

attribute [local go_sem] Oper.semAt_some

/-- a list in new memory. -/
def NewI (w : World) (v : Value) : Prop := ∀ b off n c, v = .slice (some ⟨b, off, none⟩) n c → w.heap.size ≤ b
theorem newI_nil (w : World) (n c : Nat) : NewI w (.slice none n c) := fun b off m d e => by cases e
theorem newI_at {w : World} {F n c : Nat} (h : w.heap.size ≤ F) : NewI w (.slice (some ⟨F, 0, none⟩) n c) := fun b off m d e => by cases e; exact h
theorem newI_own {w wx : World} {B n : Nat} {v : Value} {xs : List Value} (h : wx.ownsRow B 3 1 v n xs) (hb : w.heap.size ≤ B) : NewI w v := fun b off m c e => by
  subst e
  have := (h.lt b rfl).1
  omega
theorem HasInts.far {w W W' : World} {v : Value} {l : List Int} (h : HasInts W v l) (hn : NewI w v) (hk : ∀ b, w.heap.size ≤ b → W'.heap[b]? = W.heap[b]?) (hs : W.heap.size ≤ W'.heap.size) : HasInts W' v l := by
  obtain ⟨ao, cap, e, hc⟩ := h
  refine ⟨ao, cap, e, fun j a hj => ?_⟩
  obtain ⟨b, off, ea, hl, h0⟩ := hc j a hj
  subst e
  have hb := hk b (hn b off _ _ (by rw [ea]))
  exact ⟨b, off, ea, Nat.lt_of_lt_of_le hl hs, (World.cell?_of_block (a := ⟨b, _, none⟩) hb).trans h0⟩
/-- places don't lie in boxes that hold no two numbers side by side. -/
theorem HasPlaces.far {W W' : World} {v : Value} {l : List (Int × Int)} {r1 r2 : Nat} {T1 T2 : TypeId} {x : Value} (h : HasPlaces W v l) {a1 a2 a3 a4 : Option Addr} {l1 l2 l3 l4 m1 m2 m3 m4 : Nat} (h1 : W.heap[r1]? = some (.cells #[.slice a1 l1 m1, .slice a2 l2 m2, .slice a3 l3 m3] T1)) (h2 : W.heap[r2]? = some (.cells #[x, .slice a4 l4 m4] T2)) (hk : ∀ b, b ≠ r1 → b ≠ r2 → W'.heap[b]? = W.heap[b]?) (hs : W.heap.size ≤ W'.heap.size) : HasPlaces W' v l := by
  obtain ⟨ao, cap, e, hc⟩ := h
  refine ⟨ao, cap, e, fun j p hj => ?_⟩
  obtain ⟨b, off, ea, hl, q0, q1⟩ := hc j p hj
  have n1 : b ≠ r1 := fun e => by
    subst e
    simp only [World.cell?, h1] at q0
    generalize off + j * 2 = k at q0
    rcases k with _ | _ | _ | k <;> simp at q0
  have n2 : b ≠ r2 := fun e => by
    subst e
    simp only [World.cell?, h2] at q1
    generalize off + j * 2 = k at q1
    rcases k with _ | k <;> simp at q1
  have hb := hk b n1 n2
  exact ⟨b, off, ea, Nat.lt_of_lt_of_le hl hs, (World.cell?_of_block (a := ⟨b, _, none⟩) hb).trans q0, (World.cell?_of_block (a := ⟨b, _, none⟩) hb).trans q1⟩
/-- the boxes of the two results. -/
structure DR (w wx : World) : Prop where
  r1 : wx.heap[w.heap.size + 1]? = some (.cells #[.slice none 0 0, .slice none 0 0, .slice none 0 0] 34)
  r2 : wx.heap[w.heap.size + 1 + 1]? = some (.cells #[.int .i64 0, .slice none 0 0] 37)
  below : Below w.heap.size w wx
theorem DR.keep {w wx wy : World} (h : DR w wx) (hb : Below wx.heap.size wx wy) : DR w wy := ⟨(hb.block _ (lt_of_get h.r1)).trans h.r1, (hb.block _ (lt_of_get h.r2)).trans h.r2, h.below.trans (hb.mono h.below.size)⟩
/-- a world in which the two results were written, in either order. -/
def DEnd (w wx wy : World) : Prop := (∀ b, b ≠ w.heap.size + 1 → b ≠ w.heap.size + 1 + 1 → wy.heap[b]? = wx.heap[b]?) ∧ wx.heap.size ≤ wy.heap.size ∧ Below w.heap.size w wy
theorem DEnd.drew {w wx wy : World} (h : DEnd w wx wy) : DEnd w wx wy.drew := ⟨fun b h1 h2 => h.1 b h1 h2, h.2.1, h.2.2.drew⟩
theorem DEnd.r1 {w wx wy : World} (h : DEnd w wx wy) (o : Nat) (v : Value) : DEnd w wx (wy.setCell ⟨w.heap.size + 1, o, none⟩ v) := ⟨fun b h1 h2 => (heap_setCell_other _ _ _ _ h1).trans (h.1 b h1 h2), by have := h.2.1; simpa using this, h.2.2.setCell (p := ⟨w.heap.size + 1, o, none⟩) (by simp) _⟩
theorem DEnd.r2 {w wx wy : World} (h : DEnd w wx wy) (o : Nat) (v : Value) : DEnd w wx (wy.setCell ⟨w.heap.size + 1 + 1, o, none⟩ v) := ⟨fun b h1 h2 => (heap_setCell_other _ _ _ _ h2).trans (h.1 b h1 h2), by have := h.2.1; simpa using this, h.2.2.setCell (p := ⟨w.heap.size + 1 + 1, o, none⟩) (by show w.heap.size ≤ w.heap.size + 1 + 1; omega) _⟩
theorem dend_a {w wx : World} (h : Below w.heap.size w wx) (a b c d e : Value) : DEnd w wx (((((wx.setCell ⟨w.heap.size + 1, 0, none⟩ a).setCell ⟨w.heap.size + 1, 1, none⟩ b).setCell ⟨w.heap.size + 1, 2, none⟩ c).setCell ⟨w.heap.size + 1 + 1, 0, none⟩ d).setCell ⟨w.heap.size + 1 + 1, 1, none⟩ e).drew :=
  ((((((show DEnd w wx wx from ⟨fun _ _ _ => rfl, Nat.le_refl _, h⟩).r1 0 a).r1 1 b).r1 2 c).r2 0 d).r2 1 e).drew
theorem dend_b {w wx : World} (h : Below w.heap.size w wx) (a b c d e : Value) : DEnd w wx (((((wx.setCell ⟨w.heap.size + 1, 0, none⟩ a).setCell ⟨w.heap.size + 1, 1, none⟩ b).setCell ⟨w.heap.size + 1, 2, none⟩ c).setCell ⟨w.heap.size + 1 + 1, 0, none⟩ d).setCell ⟨w.heap.size + 1 + 1, 1, none⟩ e) :=
  (((((show DEnd w wx wx from ⟨fun _ _ _ => rfl, Nat.le_refl _, h⟩).r1 0 a).r1 1 b).r1 2 c).r2 0 d).r2 1 e
theorem told_cases (N : Int) (xs : List (Int × Int × Int)) : graphErr N xs = (0, []) ∨ (graphErr N xs ≠ (0, []) ∧ ((graphErr N xs).1 != 0 || decide (0 < (graphErr N xs).2.length)) = true) := by
  by_cases h : graphErr N xs = (0, [])
  · exact Or.inl h
  · refine Or.inr ⟨h, ?_⟩
    by_cases h1 : (graphErr N xs).1 = 0
    · have h2 : (graphErr N xs).2 ≠ [] := fun e => h (by rw [← h1, ← e])
      have := List.length_pos_iff.2 h2
      simp [this]
    · simp [h1]

set_option maxRecDepth 100000 in
set_option maxHeartbeats 4000000 in
theorem docBuild_calls (N : Int) (ao : Option Addr) (cap : Nat) (xs : List (Int × Int × Int)) (w : World) (hl : HasArcs w (.slice ao xs.length cap) xs) (hm : xs.length ≤ maxLen) :
    Calls Tryd.prog 10 #[.agg #[.int .i64 N, .slice ao xs.length cap]] w fun e w' => ∃ fo fl fc uo ul uc wo wl wc po pc, e = .returned (.tuple #[.agg #[.slice fo fl fc, .slice uo ul uc, .slice wo wl wc], .agg #[.int .i64 (graphErr N xs).1, .slice po (graphErr N xs).2.length pc]]) ∧ HasPlaces w' (.slice po (graphErr N xs).2.length pc) (graphErr N xs).2 ∧ ((graphErr N xs = (0, []) ∧ HasInts w' (.slice fo fl fc) (firsts N.toNat (normA xs)) ∧ HasInts w' (.slice uo ul uc) (tos (normA xs)) ∧ HasInts w' (.slice wo wl wc) (weights (normA xs))) ∨ (graphErr N xs ≠ (0, []) ∧ fl = 0 ∧ ul = 0 ∧ wl = 0)) ∧ (NewI w (.slice fo fl fc) ∧ NewI w (.slice uo ul uc) ∧ NewI w (.slice wo wl wc)) ∧ Below w.heap.size w w' := by
  obtain ⟨W0, hW0⟩ : ∃ W0, ((w.alloc (.cells #[.int .i64 N, .slice ao xs.length cap] 24)).alloc (.cells #[.slice none 0 0, .slice none 0 0, .slice none 0 0] 34)).alloc (.cells #[.int .i64 0, .slice none 0 0] 37) = W0 := ⟨_, rfl⟩
  have HW0 : Hid (((w.alloc (.cells #[.int .i64 N, .slice ao xs.length cap] 24)).alloc (.cells #[.slice none 0 0, .slice none 0 0, .slice none 0 0] 34)).alloc (.cells #[.int .i64 0, .slice none 0 0] 37) = W0) := hW0
  have hB0 : Below w.heap.size w W0 := by rw [← hW0]; exact (((Below.refl _ w).alloc (Nat.le_refl _) _).alloc (by simp) _).alloc (by simp <;> omega) _
  have k1 : W0.heap[w.heap.size + 1]? = some (.cells #[.slice none 0 0, .slice none 0 0, .slice none 0 0] 34) := by
    rw [← hW0, Below.heap_alloc _ _ _ (by simp)]
    have h := heap_new (w.alloc (.cells #[.int .i64 N, .slice ao xs.length cap] 24)) (.cells #[.slice none 0 0, .slice none 0 0, .slice none 0 0] 34)
    simpa using h
  have k2 : W0.heap[w.heap.size + 1 + 1]? = some (.cells #[.int .i64 0, .slice none 0 0] 37) := by
    have h := heap_new ((w.alloc (.cells #[.int .i64 N, .slice ao xs.length cap] 24)).alloc (.cells #[.slice none 0 0, .slice none 0 0, .slice none 0 0] 34)) (.cells #[.int .i64 0, .slice none 0 0] 37)
    rw [hW0] at h
    simpa using h
  have HD0 : Hid (DR w W0) := ⟨k1, k2, hB0⟩
  have HOF : Hid (type_of% (docOf_calls N ao cap xs W0 (hl.keep hB0) hm)) := docOf_calls N ao cap xs W0 (hl.keep hB0) hm
  have HTC : Hid (type_of% (told_cases N xs)) := told_cases N xs
  have HRB : Hid (∀ (n : Nat) (lo : Option Addr) (lc : Nat) (wx : World), type_of% (rBuild_calls n (normA xs) lo lc wx)) := fun n lo lc wx => rBuild_calls n (normA xs) lo lc wx
  have HFN : Hid (∀ n : Nat, graphErr (n : Int) xs = (0, []) → Fine n (normA xs)) := fun n h => fine_norm h
  clear hl hW0 hB0 k1 k2
  go_enter Tryd.func10, Tryd.ntmps10
  go_wp2_with fail
  rw [HW0.out]
  refine HOF.out.mono ?_
  rintro e w1 ⟨M, lo, m, lc, ys, po, pc, rfl, hA1, hP1, hY, hb1⟩
  have HD1 : Hid (DR w w1) := HD0.out.keep hb1
  have HP1 : Hid (type_of% hP1) := hP1
  have HA1 : Hid (HasArcs w1 (.slice lo m lc) ys) := hA1
  have HY : Hid (type_of% hY) := hY
  clear hA1 hP1 hY hb1
  obtain ⟨C, hC⟩ : ∃ C, (graphErr N xs).1 = C := ⟨_, rfl⟩
  obtain ⟨ps, hps⟩ : ∃ ps, (graphErr N xs).2 = ps := ⟨_, rfl⟩
  have hE : graphErr N xs = (C, ps) := by rw [← hC, ← hps]
  have HE : Hid (graphErr N xs = (C, ps)) := hE
  rw [hE] at HTC HY HP1 ⊢
  simp only at HTC HP1 ⊢
  clear hC hps hE
  have HAL : Hid (Below w1.heap.size w1 ((w1.alloc (.cells #[.int .i64 M, .slice lo m lc] 24)).alloc (.cells #[.int .i64 C, .slice po ps.length pc] 37))) := ((Below.refl _ w1).alloc (Nat.le_refl _) _).alloc (by simp) _
  have HN1 : Hid (((w1.alloc (.cells #[.int .i64 M, .slice lo m lc] 24)).alloc (.cells #[.int .i64 C, .slice po ps.length pc] 37)).heap[w1.heap.size]? = some (.cells #[.int .i64 M, .slice lo m lc] 24)) := by
    show _ = _
    rw [Below.heap_alloc _ _ _ (by simp)]
    exact heap_new _ _
  have HN2 : Hid (((w1.alloc (.cells #[.int .i64 M, .slice lo m lc] 24)).alloc (.cells #[.int .i64 C, .slice po ps.length pc] 37)).heap[w1.heap.size + 1]? = some (.cells #[.int .i64 C, .slice po ps.length pc] 37)) := by
    have h := heap_new (w1.alloc (.cells #[.int .i64 M, .slice lo m lc] 24)) (.cells #[.int .i64 C, .slice po ps.length pc] 37)
    show _ = _
    simpa using h
  go_wp2_with fail
  generalize ((w1.alloc (.cells #[.int .i64 M, .slice lo m lc] 24)).alloc (.cells #[.int .i64 C, .slice po ps.length pc] 37)) = W1 at *
  refine (bad_calls C po ps.length pc W1).mono ?_
  rintro e w2 ⟨rfl, hb2⟩
  have HD2 : Hid (DR w w2) := (HD1.out.keep HAL.out).keep hb2
  have HB2 : Hid (Below w1.heap.size w1 w2) := HAL.out.trans (hb2.mono HAL.out.size)
  have HN3 : Hid (w2.heap[w1.heap.size]? = some (.cells #[.int .i64 M, .slice lo m lc] 24) ∧ w2.heap[w1.heap.size + 1]? = some (.cells #[.int .i64 C, .slice po ps.length pc] 37)) := ⟨(hb2.block _ (lt_of_get HN1.out)).trans HN1.out, (hb2.block _ (lt_of_get HN2.out)).trans HN2.out⟩
  have HW1 : Hid (w.heap.size + 1 + 1 < w1.heap.size) := lt_of_get HD1.out.r2
  clear hb2 HN1 HN2 HAL
  have hlow := HW1.out
  have HBX : Hid (Below w1.heap.size w1 w2) := HB2.out
  obtain ⟨B, hB⟩ : ∃ B, w1.heap.size = B := ⟨_, rfl⟩
  rw [hB] at hlow HN3 ⊢
  clear hB HB2 HW1
  obtain ⟨n0, n1, _, _⟩ := cell_two HN3.out.1
  obtain ⟨e0, e1, _, _⟩ := cell_two HN3.out.2
  have bs := lt_of_get HN3.out.1
  have bs1 := lt_of_get HN3.out.2
  obtain ⟨r0, r1, r2, z0, z1, z2⟩ : w2.cell? ⟨w.heap.size + 1, 0, none⟩ = some (.slice none 0 0) ∧ w2.cell? ⟨w.heap.size + 1, 1, none⟩ = some (.slice none 0 0) ∧ w2.cell? ⟨w.heap.size + 1, 2, none⟩ = some (.slice none 0 0) ∧ w2.frozen? ⟨w.heap.size + 1, 0, none⟩ = false ∧ w2.frozen? ⟨w.heap.size + 1, 1, none⟩ = false ∧ w2.frozen? ⟨w.heap.size + 1, 2, none⟩ = false := by simp [World.cell?, World.frozen?, HD2.out.r1]
  obtain ⟨d0, d1, x0, x1⟩ := cell_two HD2.out.r2
  have rs := lt_of_get HD2.out.r1
  have rs2 := lt_of_get HD2.out.r2
  have q1 : ¬ w.heap.size + 1 = B := by omega
  have q2 : ¬ B = w.heap.size + 1 := by omega
  have q3 : ¬ w.heap.size + 1 + 1 = B := by omega
  have q4 : ¬ B = w.heap.size + 1 + 1 := by omega
  have q5 : ¬ w.heap.size + 1 = B + 1 := by omega
  have q6 : ¬ B + 1 = w.heap.size + 1 := by omega
  have q7 : ¬ w.heap.size + 1 + 1 = B + 1 := by omega
  have q8 : ¬ B + 1 = w.heap.size + 1 + 1 := by omega
  have q9 : ¬ w.heap.size = B := by omega
  have q10 : ¬ B = w.heap.size := by omega
  rcases HTC.out with hgood | ⟨hbad, hbt⟩
  · injection hgood with hC hp
    subst hC
    subst hp
    have hY : M = N ∧ ys = normA xs := by
      rcases HY.out with ⟨_, h1, h2⟩ | ⟨h, _⟩
      · exact ⟨h1, h2⟩
      · exact absurd rfl h
    obtain ⟨hNM, hys⟩ := hY
    subst hNM
    subst hys
    obtain ⟨n, rfl⟩ := good_nat HE.out
    obtain rfl : m = (normA xs).length := arcs_len HA1.out
    have HFI : Hid (Fine n (normA xs)) := HFN.out n HE.out
    have HA2 : Hid (∀ wx, Below w2.heap.size w2 wx → HasArcs wx (.slice lo (normA xs).length lc) (normA xs)) := fun wx h => HA1.out.keep ((HBX.out).trans (h.mono HBX.out.size))
    have HP2 : Hid (HasPlaces w2 (.slice po ([] : List (Int × Int)).length pc) []) := HP1.out.keep HBX.out
    have HCL : Hid (∀ wx, Below w2.heap.size w2 wx → Calls Tryd.prog 33 #[.agg #[.int .i64 n, .slice lo (normA xs).length lc]] wx fun e w' => ∃ fo fc uo tc wo wc, e = .returned (.agg #[.slice fo (n + 1) fc, .slice uo (normA xs).length tc, .slice wo (normA xs).length wc]) ∧ w'.ownsRow w2.heap.size 3 1 (.slice fo (n + 1) fc) (firsts n (normA xs)).length (iv (firsts n (normA xs))) ∧ w'.ownsRow w2.heap.size 3 1 (.slice uo (normA xs).length tc) (tos (normA xs)).length (iv (tos (normA xs))) ∧ w'.ownsRow w2.heap.size 3 1 (.slice wo (normA xs).length wc) (weights (normA xs)).length (iv (weights (normA xs))) ∧ Below w2.heap.size w2 w') := fun wx h =>
      (HRB.out n lo lc wx (HA2.out wx h) HFI.out).mono fun e w' ⟨fo, fc, uo, tc, wo, wc, he, h1, h2, h3, hb⟩ => ⟨fo, fc, uo, tc, wo, wc, he, iown_base h1 h.size, iown_base h2 h.size, iown_base h3 h.size, h.trans (hb.mono h.size)⟩
    have HKC : Hid (∀ wx, Below w2.heap.size w2 wx → (wx.cell? ⟨B, 0, none⟩ = some (.int .i64 n) ∧ wx.cell? ⟨B, 1, none⟩ = some (.slice lo (normA xs).length lc)) ∧ (wx.cell? ⟨B + 1, 0, none⟩ = some (.int .i64 0) ∧ wx.cell? ⟨B + 1, 1, none⟩ = some (.slice po 0 pc)) ∧ (wx.cell? ⟨w.heap.size + 1, 0, none⟩ = some (.slice none 0 0) ∧ wx.cell? ⟨w.heap.size + 1, 1, none⟩ = some (.slice none 0 0) ∧ wx.cell? ⟨w.heap.size + 1, 2, none⟩ = some (.slice none 0 0) ∧ wx.frozen? ⟨w.heap.size + 1, 0, none⟩ = false ∧ wx.frozen? ⟨w.heap.size + 1, 1, none⟩ = false ∧ wx.frozen? ⟨w.heap.size + 1, 2, none⟩ = false) ∧ (wx.cell? ⟨w.heap.size + 1 + 1, 0, none⟩ = some (.int .i64 0) ∧ wx.cell? ⟨w.heap.size + 1 + 1, 1, none⟩ = some (.slice none 0 0) ∧ wx.frozen? ⟨w.heap.size + 1 + 1, 0, none⟩ = false ∧ wx.frozen? ⟨w.heap.size + 1 + 1, 1, none⟩ = false) ∧ w.heap.size + 1 < wx.heap.size ∧ w.heap.size + 1 + 1 < wx.heap.size ∧ B < wx.heap.size ∧ B + 1 < wx.heap.size) := fun wx h => by
      have g1 := (h.block _ (lt_of_get HN3.out.1)).trans HN3.out.1
      have g2 := (h.block _ (lt_of_get HN3.out.2)).trans HN3.out.2
      have g3 := HD2.out.keep h
      exact ⟨⟨(cell_two g1).1, (cell_two g1).2.1⟩, ⟨(cell_two g2).1, (cell_two g2).2.1⟩, by simp [World.cell?, World.frozen?, g3.r1], cell_two g3.r2, lt_of_get g3.r1, lt_of_get g3.r2, lt_of_get g1, lt_of_get g2⟩
    rw [show ((0 : Int) != 0 || decide (0 < ([] : List (Int × Int)).length)) = false from rfl]
    generalize hzs : normA xs = zs at *
    have HZS : Hid (normA xs = zs) := hzs
    clear hzs
    go_wp2_with fail
    go_region_held3 (fun w' => w'.cell? ⟨B, 0, none⟩ = some (.int .i64 n) ∧ w'.cell? ⟨B, 1, none⟩ = some (.slice lo zs.length lc) ∧ w'.cell? ⟨B + 1, 0, none⟩ = some (.int .i64 0) ∧ w'.cell? ⟨B + 1, 1, none⟩ = some (.slice po 0 pc)) (go_keep) (first
      | (go_at_call 33; refine (HCL.out _ (Below.refl _ w2).drew).mono ?_; rintro e w3 ⟨fo, fc, uo, tc, wo, wc, rfl, ho1, ho2, ho3, hb3⟩; have H3 : Hid (w3.ownsRow w2.heap.size 3 1 (.slice fo (n + 1) fc) (firsts n zs).length (iv (firsts n zs)) ∧ w3.ownsRow w2.heap.size 3 1 (.slice uo zs.length tc) (tos zs).length (iv (tos zs)) ∧ w3.ownsRow w2.heap.size 3 1 (.slice wo zs.length wc) (weights zs).length (iv (weights zs)) ∧ Below w2.heap.size w2 w3) := ⟨ho1, ho2, ho3, hb3⟩; clear ho1 ho2 ho3; clear n0 n1 e0 e1 r0 r1 r2 z0 z1 z2 d0 d1 x0 x1 rs rs2 bs bs1; obtain ⟨⟨n0, n1⟩, ⟨e0, e1⟩, ⟨r0, r1, r2, z0, z1, z2⟩, ⟨d0, d1, x0, x1⟩, rs, rs2, bs, bs1⟩ := HKC.out w3 hb3; clear hb3))
    all_goals
      go_wp2
      have hD3 := HD2.out.keep H3.out.2.2.2
      have hDE := dend_b hD3.below (.slice fo (n + 1) fc) (.slice uo zs.length tc) (.slice wo zs.length wc) (.int .i64 0) (.slice po 0 pc)
      have hk : ∀ (u : Value) (m : Nat) (vs : List Value), w3.ownsRow w2.heap.size 3 1 u m vs → (((((w3.setCell ⟨w.heap.size + 1, 0, none⟩ (.slice fo (n + 1) fc)).setCell ⟨w.heap.size + 1, 1, none⟩ (.slice uo zs.length tc)).setCell ⟨w.heap.size + 1, 2, none⟩ (.slice wo zs.length wc)).setCell ⟨w.heap.size + 1 + 1, 0, none⟩ (.int .i64 0)).setCell ⟨w.heap.size + 1 + 1, 1, none⟩ (.slice po 0 pc)).ownsRow w2.heap.size 3 1 u m vs := fun u m vs hu => iown_keep hu fun k hk => hDE.1 k (by have := (hu.lt k hk).1; have := lt_of_get HD2.out.r1; omega) (by have := (hu.lt k hk).1; have := lt_of_get HD2.out.r2; omega)
      refine bodyPost_ret (v := .tuple #[.agg #[.slice fo (n + 1) fc, .slice uo zs.length tc, .slice wo zs.length wc], .agg #[.int .i64 0, .slice po 0 pc]]) (by simp [results, Tryd.results10, go_sem, r0, r1, r2, d0, d1]) rfl ?_
      rw [HE.out, HZS.out, Int.toNat_natCast]
      exact ⟨fo, _, fc, uo, _, tc, wo, _, wc, po, pc, rfl, ⟨po, pc, rfl, fun j p hj => by simp at hj⟩, Or.inl ⟨rfl, ints_of_iown (hk _ _ _ H3.out.1), ints_of_iown (hk _ _ _ H3.out.2.1), ints_of_iown (hk _ _ _ H3.out.2.2.1)⟩, ⟨newI_own H3.out.1 HD2.out.below.size, newI_own H3.out.2.1 HD2.out.below.size, newI_own H3.out.2.2.1 HD2.out.below.size⟩, hDE.2.2⟩
  · rw [hbt]
    have HBD : Hid ((C, ps) ≠ ((0 : Int), ([] : List (Int × Int)))) := hbad
    clear hbad hbt
    go_wp2_with fail
    go_region_held (fun w' => w'.cell? ⟨B + 1, 0, none⟩ = some (.int .i64 C) ∧ w'.cell? ⟨B + 1, 1, none⟩ = some (.slice po ps.length pc)) (go_keep) (first | fail)
    all_goals
      go_wp2
      have hDE := dend_a HD2.out.below (.slice none 0 0) (.slice none 0 0) (.slice none 0 0) (.int .i64 C) (.slice po ps.length pc)
      refine bodyPost_ret (v := .tuple #[.agg #[.slice none 0 0, .slice none 0 0, .slice none 0 0], .agg #[.int .i64 C, .slice po ps.length pc]]) (by simp [results, Tryd.results10, go_sem, r0, r1, r2, d0, d1]) rfl ?_
      rw [HE.out]
      exact ⟨none, 0, 0, none, 0, 0, none, 0, 0, po, pc, rfl, (HP1.out.keep HBX.out).far HD2.out.r1 HD2.out.r2 hDE.1 hDE.2.1, Or.inr ⟨HBD.out, rfl, rfl, rfl⟩, ⟨newI_nil _ _ _, newI_nil _ _ _, newI_nil _ _ _⟩, hDE.2.2⟩
end Go.Proofs.YtgfmalimnbgdeaaDoor
