/- an overlay that is nil. an overlay's New refused, and a bare error seen. the steps of the law OverlayFixed. -/
import Derived.Test.YtbkclhaonbjobaaGreatQcX
import Derived.Test.YtbkclhaonbjobaaGreatQfX
import Derived.Test.YtbkclhaonbjobaaGreatPlaces
import Derived.Test.YtbkclhaonbjobaaGreatDocCheck
import Derived.Test.YtbkclhaonbjobaaGreatQnX
namespace Go.Proofs.YtbkclhaonbjobaaGreat
open Go.RowKit Go.Extern Go.Sort

attribute [local go_sem] Oper.semAt_some

section
variable {w : World}
set_option maxHeartbeats 1000000 in
theorem isNode_nil (x : Int) : Ans 28 #[.pointer none, .int .i64 x] w (.bool false) := by
  unfold Ans
  go_enter Tryz.func28, Tryz.ntmps28
  go_wp2
  go_ret
  exact ⟨rfl, rfl⟩
set_option maxHeartbeats 1000000 in
theorem alive_nil (x : Int) : Ans 9 #[.pointer none, .int .i64 x] w (.bool false) := by
  have HN : Hid (Ans 28 #[.pointer none, .int .i64 x] w (.bool false)) := isNode_nil x
  unfold Ans at *
  go_enter Tryz.func9, Tryz.ntmps9
  go_wp2_with fail
  refine HN.out.mono ?_
  rintro e w1 ⟨rfl, hw1⟩
  subst hw1
  go_wp2
  go_ret
  exact ⟨rfl, rfl⟩
set_option maxHeartbeats 1000000 in
theorem out_nil (x : Int) : Ans 11 #[.pointer none, .int .i64 x] w (.slice none 0 0) := by
  have HN : Hid (Ans 9 #[.pointer none, .int .i64 x] w (.bool false)) := alive_nil x
  unfold Ans at *
  go_enter Tryz.func11, Tryz.ntmps11
  go_wp2_with fail
  refine HN.out.mono ?_
  rintro e w1 ⟨rfl, hw1⟩
  subst hw1
  go_wp2
  go_ret
  exact ⟨rfl, rfl⟩
set_option maxHeartbeats 1000000 in
theorem in_nil (x : Int) : Ans 39 #[.pointer none, .int .i64 x] w (.slice none 0 0) := by
  have HN : Hid (Ans 9 #[.pointer none, .int .i64 x] w (.bool false)) := alive_nil x
  unfold Ans at *
  go_enter Tryz.func39, Tryz.ntmps39
  go_wp2_with fail
  refine HN.out.mono ?_
  rintro e w1 ⟨rfl, hw1⟩
  subst hw1
  go_wp2
  go_ret
  exact ⟨rfl, rfl⟩
set_option maxHeartbeats 2000000 in
theorem weight_nil (x y : Int) : Ans 53 #[.pointer none, .int .i64 x, .int .i64 y] w (.tuple #[.int .u64 0, .bool false]) := by
  have HN : Hid (Ans 9 #[.pointer none, .int .i64 x] w (.bool false)) := alive_nil x
  unfold Ans at *
  go_enter Tryz.func53, Tryz.ntmps53
  go_wp2_with fail
  refine HN.out.mono ?_
  rintro e w1 ⟨rfl, hw1⟩
  subst hw1
  go_wp2
  go_ret2
  exact ⟨rfl, rfl⟩
set_option maxRecDepth 100000 in
set_option maxHeartbeats 2000000 in
theorem checkPut_nil (x y wt via : Int) : Ans 52 #[.pointer none, .int .i64 x, .int .i64 y, .int .u64 wt, .int .i64 via] w (.iface 104 (.int .i64 19)) := by
  unfold Ans
  go_enter Tryz.func52, Tryz.ntmps52
  go_wp2
  go_ret
  exact ⟨rfl, rfl⟩
set_option maxRecDepth 100000 in
set_option maxHeartbeats 2000000 in
theorem put_nil (x y wt via : Int) : Ans 30 #[.pointer none, .int .i64 x, .int .i64 y, .int .u64 wt, .int .i64 via] w (.tuple #[.bool false, .iface 104 (.int .i64 19)]) := by
  have HN : Hid (Ans 52 #[.pointer none, .int .i64 x, .int .i64 y, .int .u64 wt, .int .i64 via] w (.iface 104 (.int .i64 19))) := checkPut_nil x y wt via
  unfold Ans at *
  go_enter Tryz.func30, Tryz.ntmps30
  go_wp2_with fail
  refine HN.out.mono ?_
  rintro e w1 ⟨rfl, hw1⟩
  subst hw1
  go_wp2
  go_ret2
  exact ⟨rfl, rfl⟩
set_option maxRecDepth 100000 in
set_option maxHeartbeats 2000000 in
theorem remove_nil (x : Int) : Ans 29 #[.pointer none, .int .i64 x] w (.iface 104 (.int .i64 19)) := by
  unfold Ans
  go_enter Tryz.func29, Tryz.ntmps29
  go_wp2
  go_ret
  exact ⟨rfl, rfl⟩
end
end Go.Proofs.YtbkclhaonbjobaaGreat

namespace Go.Proofs.YtbkclhaonbjobaaGreat
open Go.RowKit Go.Extern Go.Sort

attribute [local go_sem] Oper.semAt_some

theorem told_bare (w : World) {c : Int} (hc : c ≠ 0) : IsTold w (c, []) (.iface 104 (.int .i64 c)) := Or.inr ⟨hc, rfl⟩
theorem places_none (w : World) : HasPlaces w (.slice none 0 0) [] := ⟨none, 0, rfl, fun j p hj => by simp at hj⟩
theorem told_iff {w : World} {E : Int × List (Int × Int)} {v : Value} (h : IsTold w E v) (hE : E ≠ (0, [])) : ∃ T x, v = .iface T x := by
  rcases h with ⟨h, _⟩ | ⟨_, h⟩
  · exact absurd h hE
  · obtain ⟨c, ps⟩ := E
    cases ps with
    | nil => exact ⟨_, _, h⟩
    | cons p ps =>
      obtain ⟨b, u, h, _⟩ := h
      exact ⟨_, _, h⟩
set_option maxRecDepth 100000 in
set_option maxHeartbeats 4000000 in
theorem onew_bad (N : Int) (ao : Option Addr) (cap : Nat) (xs : List (Int × Int × Int)) (w : World) (hl : HasArcs w (.slice ao xs.length cap) xs) (hm : xs.length ≤ maxLen) (hg : graphErr N xs ≠ (0, [])) :
    Calls Tryz.prog 7 #[.agg #[.int .i64 N, .slice ao xs.length cap]] w fun e w' => ∃ v, e = .returned (.tuple #[.pointer none, v]) ∧ IsTold w' (graphErr N xs) v ∧ Below w.heap.size w w' := by
  obtain ⟨W0, hW0⟩ : ∃ W0, w.alloc (.cells #[.int .i64 N, .slice ao xs.length cap] 24) = W0 := ⟨_, rfl⟩
  have HW0 : Hid (w.alloc (.cells #[.int .i64 N, .slice ao xs.length cap] 24) = W0) := hW0
  have hB0 : Below w.heap.size w W0 := by rw [← hW0]; exact (Below.refl _ w).alloc (Nat.le_refl _) _
  have k1 : W0.heap[w.heap.size]? = some (.cells #[.int .i64 N, .slice ao xs.length cap] 24) := by rw [← hW0]; exact heap_new _ _
  have HOF : Hid (Calls Tryz.prog 26 #[.agg #[.int .i64 N, .slice ao xs.length cap]] W0 fun e w' => ∃ lo lc T x, e = .returned (.tuple #[.agg #[.int .i64 0, .slice lo 0 lc], .iface T x]) ∧ IsTold w' (graphErr N xs) (.iface T x) ∧ Below W0.heap.size W0 w') := by
    refine (of_all N ao cap xs W0 (hl.keep hB0) hm).mono ?_
    rintro e w' ⟨M, lo, k, lc, v, ys, rfl, hA, _, hT, h | h, hB⟩
    · exact absurd h.1 hg
    · obtain ⟨_, rfl, rfl⟩ := h
      obtain rfl : k = 0 := arcs_len hA
      obtain ⟨T, x, rfl⟩ := told_iff hT hg
      exact ⟨lo, lc, T, x, rfl, hT, hB⟩
  have HB0 : Hid (Below w.heap.size w W0) := hB0
  obtain ⟨c0, c1⟩ : W0.cell? ⟨w.heap.size, 0, none⟩ = some (.int .i64 N) ∧ W0.cell? ⟨w.heap.size, 1, none⟩ = some (.slice ao xs.length cap) := by simp [World.cell?, k1]
  generalize graphErr N xs = E at *
  generalize xs.length = k0 at *
  clear hl hg hW0 hB0 k1 hm
  go_enter Tryz.func7, Tryz.ntmps7
  go_wp2_with fail
  rw [HW0.out]
  refine HOF.out.mono ?_
  rintro e w1 ⟨lo, lc, T, x, rfl, hT1, hb1⟩
  have HB1 : Hid (Below w.heap.size w w1) := HB0.out.trans (hb1.mono HB0.out.size)
  have HT1 : Hid (IsTold w1 E (.iface T x)) := hT1
  clear hT1 hb1 c0 c1
  go_wp2
  go_ret2
  have hbA : Below w1.heap.size w1 (w1.alloc (.cells #[.int .i64 0, .slice lo 0 lc] 24)) := (Below.refl _ w1).alloc (Nat.le_refl _) _
  exact ⟨_, rfl, HT1.out.keep (Below.keeps hbA), HB1.out.trans (hbA.mono HB1.out.size)⟩
section
variable {PX : Nat → Option Obj} {w w' : World} {B0 pb n : Nat} {bs : List Bool} {R : Bool → Nat → Rw} {nodes arcs : Int}
theorem IsOv.putNo (h : IsOv PX B0 w pb n bs R nodes arcs) (x y wt via c : Int) (hc : putErr n bs x y wt via = c) (h0 : c ≠ 0) : Ans 30 #[.pointer (some ⟨pb, 0, none⟩), .int .i64 x, .int .i64 y, .int .u64 wt, .int .i64 via] w (.tuple #[.bool false, .iface 104 (.int .i64 c)]) := by
  obtain ⟨B, ab, sb, _, h1, h2⟩ := h
  subst hc
  exact oPutErr h1 x y wt via h0
theorem IsOv.removeNo (h : IsOv PX B0 w pb n bs R nodes arcs) (x : Int) (hx : aliveB n bs x = false) : Ans 29 #[.pointer (some ⟨pb, 0, none⟩), .int .i64 x] w (.iface 104 (.int .i64 7)) := by
  obtain ⟨B, ab, sb, _, h1, h2⟩ := h
  exact remove_err h1 x hx
end
end Go.Proofs.YtbkclhaonbjobaaGreat

namespace Go.Proofs.YtbkclhaonbjobaaGreat
open Go.RowKit Go.Extern Go.Sort

attribute [local go_sem] Oper.semAt_some

def xsF : List (Int × Int × Int) := [(0, 1, 4), (0, 1, 3), (2, 2, 1), (1, 2, 1)]
theorem xsF_good : graphErr ((3 : Nat) : Int) xsF = (0, []) := by kernel_rfl
theorem xsF_norm : normA xsF = xsO := by kernel_rfl
theorem xs1_bad : graphErr 1 [(0, 1, 0)] = (7, [(4, 0)]) := by kernel_rfl
abbrev cellsF : Array Value := #[.int .i64 0, .int .i64 1, .int .i64 4, .int .i64 0, .int .i64 1, .int .i64 3, .int .i64 2, .int .i64 2, .int .i64 1, .int .i64 1, .int .i64 2, .int .i64 1]
theorem arcs_four (w : World) : HasArcs (w.alloc (.cells cellsF 84)) (.slice (some ⟨w.heap.size, 0, none⟩) 4 4) xsF := by
  have k0 := heap_new w (.cells cellsF 84)
  generalize w.alloc (.cells cellsF 84) = W0 at *
  refine ⟨_, 4, rfl, fun j a hj => ⟨w.heap.size, 0, rfl, lt_of_get k0, ?_⟩⟩
  rcases j with _ | _ | _ | _ | j <;> simp [xsF] at hj <;> subst hj <;> simp [World.cell?, k0]
theorem arcs_oneF (w : World) : HasArcs (w.alloc (.cells #[.int .i64 0, .int .i64 1, .int .i64 0] 84)) (.slice (some ⟨w.heap.size, 0, none⟩) 1 1) [(0, 1, 0)] := by
  have k0 := heap_new w (.cells #[.int .i64 0, .int .i64 1, .int .i64 0] 84)
  generalize w.alloc (.cells #[.int .i64 0, .int .i64 1, .int .i64 0] 84) = W0 at *
  refine ⟨_, 1, rfl, fun j a hj => ⟨w.heap.size, 0, rfl, lt_of_get k0, ?_⟩⟩
  rcases j with _ | j <;> simp at hj
  subst hj
  simp [World.cell?, k0]
theorem pl_oneO {w : World} {g : Nat} {k a : Int} (h : w.heap[g]? = some (.cells #[.int .i64 k, .int .i64 a] 125)) : HasPlaces w (.slice (some ⟨g, 0, none⟩) 1 1) [(k, a)] := by
  refine ⟨some ⟨g, 0, none⟩, 1, rfl, fun j p hj => ?_⟩
  rcases j with _ | j
  · obtain rfl : (k, a) = p := by simpa using hj
    exact ⟨g, 0, rfl, lt_of_get h, by simp [World.cell?, h], by simp [World.cell?, h]⟩
  · simp at hj
theorem new_four (w w0 : World) (hb : Below w.heap.size w w0) : Calls Tryz.prog 7 #[.agg #[.int .i64 3, .slice (some ⟨w0.heap.size, 0, none⟩) 4 4]] (w0.alloc (.cells cellsF 84)) fun e w1 => ∃ pb R, e = .returned (.tuple #[.pointer (some ⟨pb, 0, none⟩), .nilIface]) ∧ IsOv noP w.heap.size w1 pb 3 (List.replicate 3 true) R 3 2 ∧ (∀ s u, u < 3 → (R s u).2 = (sideL s xsO u, 0)) ∧ Below w.heap.size w w1 := by
  have hB0 : Below w0.heap.size w0 (w0.alloc (.cells cellsF 84)) := (Below.refl _ w0).alloc (Nat.le_refl _) _
  have hB1 := hb.trans (hB0.mono hb.size)
  have h := ov_new (n := 3) (some ⟨w0.heap.size, 0, none⟩) 4 4 xsF _ (arcs_four w0) xsF_good
  rw [xsF_norm] at h
  refine h.mono ?_
  rintro e w1 ⟨pb, R, rfl, ⟨B, ab, sb, h0, h1, h2⟩, hR, hb1⟩
  exact ⟨pb, R, rfl, ⟨B, ab, sb, Nat.le_trans hB1.size h0, h1, h2⟩, hR, hB1.trans (hb1.mono hB1.size)⟩
theorem new_one (w0 : World) : Calls Tryz.prog 7 #[.agg #[.int .i64 1, .slice (some ⟨w0.heap.size, 0, none⟩) 1 1]] (w0.alloc (.cells #[.int .i64 0, .int .i64 1, .int .i64 0] 84)) fun e w1 => ∃ v, e = .returned (.tuple #[.pointer none, v]) ∧ IsTold w1 (7, [(4, 0)]) v ∧ Below w0.heap.size w0 w1 := by
  have hB0 : Below w0.heap.size w0 (w0.alloc (.cells #[.int .i64 0, .int .i64 1, .int .i64 0] 84)) := (Below.refl _ w0).alloc (Nat.le_refl _) _
  refine (onew_bad 1 (some ⟨w0.heap.size, 0, none⟩) 1 [(0, 1, 0)] _ (arcs_oneF w0) (by simp [maxLen]) (by rw [xs1_bad]; simp)).mono ?_
  rintro e w1 ⟨v, rfl, hT, hb⟩
  rw [xs1_bad] at hT
  exact ⟨v, rfl, hT, hB0.trans (hb.mono hB0.size)⟩
section
variable {PX : Nat → Option Obj} {w w' : World} {B0 pb n : Nat} {bs : List Bool} {R : Bool → Nat → Rw} {nodes arcs : Int}
theorem IsOv.outIs (h : IsOv PX B0 w pb n bs R nodes arcs) (x : Int) (ha : aliveB n bs x = true) (L : List H3) (hL : livH bs (R false x.toNat).2.1 = L) : Calls Tryz.prog 11 #[.pointer (some ⟨pb, 0, none⟩), .int .i64 x] w fun e w' => ∃ so sc, e = .returned (.slice so L.length sc) ∧ HasHs w' (.slice so L.length sc) L ∧ Below w.heap.size w w' := by
  refine (h.out x).mono ?_
  rintro e w4 ⟨vo, rfl, _, ho4, hb4⟩
  have ho4 := ho4 ha
  rw [hL] at ho4
  obtain ⟨so, sc, hv⟩ := rowH_slice ho4
  subst hv
  exact ⟨so, sc, rfl, hs_of_rowH ho4, hb4⟩
theorem IsOv.inIs (h : IsOv PX B0 w pb n bs R nodes arcs) (x : Int) (ha : aliveB n bs x = true) (L : List H3) (hL : livH bs (R true x.toNat).2.1 = L) : Calls Tryz.prog 39 #[.pointer (some ⟨pb, 0, none⟩), .int .i64 x] w fun e w' => ∃ so sc, e = .returned (.slice so L.length sc) ∧ HasHs w' (.slice so L.length sc) L ∧ Below w.heap.size w w' := by
  refine (h.inn x).mono ?_
  rintro e w4 ⟨vo, rfl, _, ho4, hb4⟩
  have ho4 := ho4 ha
  rw [hL] at ho4
  obtain ⟨so, sc, hv⟩ := rowH_slice ho4
  subst hv
  exact ⟨so, sc, rfl, hs_of_rowH ho4, hb4⟩
theorem IsOv.putKeep (h : IsOv PX B0 w pb n bs R nodes arcs) (x y wt via : Int) (hp : putErr n bs x y wt via = 0) (k : Int) (hw : weightM n bs R x y = some k) (hk : k ≤ wt) : Calls Tryz.prog 30 #[.pointer (some ⟨pb, 0, none⟩), .int .i64 x, .int .i64 y, .int .u64 wt, .int .i64 via] w fun e w' => e = .returned (.tuple #[.bool false, .nilIface]) ∧ Below w.heap.size w w' := by
  obtain ⟨B, ab, sb, h0, h1, h2⟩ := h
  exact oPutKeep h1 h2.ok _ _ wt via hp k hw hk
theorem IsOv.putYes (h : IsOv PX B0 w pb n bs R nodes arcs) (x y wt via : Int) (a b : Nat) (hx : x = (a : Int)) (hy : y = (b : Int)) (hp : putErr n bs x y wt via = 0) (o : Option Int) (hw : weightM n bs R x y = o) (hk : ∀ k, o = some k → wt < k) (ha : -4611686018427387904 ≤ arcs ∧ arcs ≤ 4611686018427387904) : Calls Tryz.prog 30 #[.pointer (some ⟨pb, 0, none⟩), .int .i64 x, .int .i64 y, .int .u64 wt, .int .i64 via] w fun e w' => ∃ v1 v2, e = .returned (.tuple #[.bool true, .nilIface]) ∧ IsOv PX B0 w' pb n bs (putRows R a b wt via v1 v2) nodes (arcs + (if o.isNone then 1 else 0)) ∧ Below B0 w w' := by
  refine (h.put x y wt via ha).mono ?_
  rintro e w3 (⟨c, hc, hq, _⟩ | ⟨k, h1, h2, _⟩ | ⟨a', b', v1, v2, ha', hb', _, _, rfl, hO, hb⟩)
  · exact absurd (hq.symm.trans hp) hc
  · have := hk k (hw.symm.trans h1)
    omega
  · obtain rfl : a' = a := by omega
    obtain rfl : b' = b := by omega
    rw [hw] at hO
    exact ⟨v1, v2, rfl, hO, hb⟩
theorem IsOv.removeYes (h : IsOv PX B0 w pb n bs R nodes arcs) (x : Int) (u : Nat) (hx : x = (u : Int)) (hal : aliveB n bs x = true) (ha : -4611686018427000000 ≤ arcs ∧ arcs ≤ 4611686018427000000) (hnd : -4611686018427387904 ≤ nodes ∧ nodes ≤ 4611686018427387904) : Calls Tryz.prog 29 #[.pointer (some ⟨pb, 0, none⟩), .int .i64 x] w fun e w' => ∃ R' : Bool → Nat → Rw, e = .returned .nilIface ∧ IsOv PX B0 w' pb n (bs.set u false) R' (nodes - 1) (arcs - ((livH bs (R false u).2.1).length : Int) - ((livH bs (R true u).2.1).length : Int)) ∧ (∀ s v, v < n → (R' s v).2 = if v = u then ([], 0) else if hasH (livH (bs.set u false) (R (!s) u).2.1) (v : Int) then loseH (bs.set u false) (R s v).2.1 (R s v).2.2 else (R s v).2) ∧ Below B0 w w' := by
  refine (h.remove x ha hnd).mono ?_
  rintro e w2 (⟨h1, _, _⟩ | ⟨_, u', R', hu, _, _, rfl, hO2, hL, hb2⟩)
  · rw [hal] at h1
    cases h1
  obtain rfl : u' = u := by omega
  exact ⟨R', rfl, hO2, hL, hb2⟩
end
/-- the first rows. -/
theorem rows0 {R : Bool → Nat → Rw} (hR : ∀ s u, u < 3 → (R s u).2 = (sideL s xsO u, 0)) : livH (List.replicate 3 true) (R false (0 : Int).toNat).2.1 = [(1, 3, -1)] ∧ livH (List.replicate 3 true) (R true (2 : Int).toNat).2.1 = [(1, 1, -1)] ∧ livH (List.replicate 3 true) (R false 1).2.1 = [(2, 1, -1)] ∧ livH (List.replicate 3 true) (R true 1).2.1 = [(0, 3, -1)] := by
  refine ⟨?_, ?_, ?_, ?_⟩
  · rw [show (0 : Int).toNat = 0 from rfl, hR false 0 (by decide)]; rfl
  · rw [show (2 : Int).toNat = 2 from rfl, hR true 2 (by decide)]; rfl
  · rw [hR false 1 (by decide)]; rfl
  · rw [hR true 1 (by decide)]; rfl
/-- what is known of the rows later. -/
def Row0 (R : Bool → Nat → Rw) (L : List H3) : Prop := (R false 0).2 = (L, 0) ∧ (R false 2).2 = ([], 0)
theorem row1 {R R' : Bool → Nat → Rw} (hR : ∀ s u, u < 3 → (R s u).2 = (sideL s xsO u, 0)) (hL : ∀ s v, v < 3 → (R' s v).2 = if v = 1 then ([], 0) else if hasH (livH ((List.replicate 3 true).set 1 false) (R (!s) 1).2.1) (v : Int) then loseH ((List.replicate 3 true).set 1 false) (R s v).2.1 (R s v).2.2 else (R s v).2) : Row0 R' [] := by
  refine ⟨?_, ?_⟩
  · rw [hL false 0 (by decide), if_neg (by decide), Bool.not_false, hR true 1 (by decide), hR false 0 (by decide)]
    rfl
  · rw [hL false 2 (by decide), if_neg (by decide), Bool.not_false, hR true 1 (by decide), hR false 2 (by decide)]
    rfl
theorem row2 {R : Bool → Nat → Rw} {L : List H3} {v1 v2 : Value} {wt via : Int} (h : Row0 R L) : Row0 (putRows R 0 2 wt via v1 v2) (setH L (2, wt, via)) := by
  unfold putRows Row0
  refine ⟨?_, ?_⟩
  · rw [updS_far _ true false _ _ (by simp), updS_at, h.1]
    rfl
  · rw [updS_far _ true false _ _ (by simp)]
    rw [← h.2]
    simp [updS, updR]
theorem row0_w {R : Bool → Nat → Rw} {L : List H3} (h : Row0 R L) : weightM 3 bsO R 2 0 = none := by
  unfold weightM
  rw [show (2 : Int).toNat = 2 from rfl, h.2]
  rfl
theorem row0_w0 {R : Bool → Nat → Rw} (h : Row0 R []) : weightM 3 bsO R 0 2 = none := by
  unfold weightM
  rw [show (0 : Int).toNat = 0 from rfl, h.1]
  rfl
theorem row0_w4 {R : Bool → Nat → Rw} (h : Row0 R [(2, 4, 1)]) : weightM 3 bsO R 0 2 = some 4 := by
  unfold weightM
  rw [show (0 : Int).toNat = 0 from rfl, h.1]
  rfl
theorem row0_out {R : Bool → Nat → Rw} {L : List H3} (h : Row0 R L) : livH bsO (R false (0 : Int).toNat).2.1 = livH bsO L := by
  rw [show (0 : Int).toNat = 0 from rfl, h.1]
end Go.Proofs.YtbkclhaonbjobaaGreat
