/- viaductref04.SameRow at rows that are one; Find on an overlay that New made. the law's own graph; awake. -/
import Derived.Test.YtcfpkbmeblfhoaaGreatWu3
import Derived.BigQuiet
namespace Go.Proofs.YtcfpkbmeblfhoaaGreat.Wt
open Go Go.RowKit Go.Extern

attribute [local go_sem] Oper.semAt_some

/-- a row of numbers, or none at all. -/
def URow (w : World) (ao : Option Addr) (D : List Int) : Prop := (ao = none ∧ D = []) ∨ ∃ b, ao = some ⟨b, 0, none⟩ ∧ U64s w b D
theorem URow.at {w : World} {ao : Option Addr} {D : List Int} (h : URow w ao D) {k : Nat} {x : Int} (hk : D[k]? = some x) : ∃ b, ao = some ⟨b, 0, none⟩ ∧ b < w.heap.size ∧ w.cell? ⟨b, k, none⟩ = some (.int .u64 x) := by
  rcases h with ⟨_, rfl⟩ | ⟨b, h1, h2⟩
  · simp at hk
  · exact ⟨b, h1, (h2.at hk).2.1, (h2.at hk).1⟩
theorem URow.keep {w w' : World} {ao : Option Addr} {D : List Int} (h : URow w ao D) (hb : Below w.heap.size w w') : URow w' ao D := by
  rcases h with h | ⟨b, h1, h2⟩
  · exact Or.inl h
  · exact Or.inr ⟨b, h1, (hb.block _ (lt_of_get h2)).trans h2⟩

set_option maxRecDepth 100000 in
set_option maxHeartbeats 1000000 in
theorem sameRow_yes (ao bo : Option Addr) (ac bc : Nat) (D : List Int) (w : World) (ha : URow w ao D) (hb : URow w bo D) (hm : D.length ≤ maxLen) :
    Calls Tryz.prog 14 #[.slice ao D.length ac, .slice bo D.length bc] w fun e w' => e = .returned (.bool true) ∧ Below w.heap.size w w' := by
  unfold maxLen at hm
  have HA : Hid (URow w ao D) := ha
  have HB : Hid (URow w bo D) := hb
  clear ha hb
  go_enter Tryz.func14, Tryz.ntmps14
  go_wp2_with fail
  go_loopw [13] (fun iv wr => ∃ k : Nat, k ≤ D.length ∧ iv = .int .i64 k ∧ Below w.heap.size w wr) (fun iv _ => D.length - (intOf iv).toNat)
  case atStart => exact ⟨0, Nat.zero_le _, rfl, Below.refl _ _⟩
  case round =>
    obtain ⟨k, hk, rfl, hbw⟩ := hrel
    by_cases hlt : k < D.length
    · obtain ⟨p, hp⟩ : ∃ p, D[k]? = some p := ⟨D[k], List.getElem?_eq_getElem hlt⟩
      obtain ⟨b, hao, hl1, q0⟩ := HA.out.at hp
      obtain ⟨b', hbo, hl2, r0⟩ := HB.out.at hp
      subst hao
      subst hbo
      have a0 := (hbw.cell (p := ⟨b, k, none⟩) hl1).trans q0
      have b0 := (hbw.cell (p := ⟨b', k, none⟩) hl2).trans r0
      have i1 : (k : Int) < (D.length : Int) := by omega
      have i2 : (0 : Int) ≤ (k : Int) := by omega
      have HBW : Hid (Below w.heap.size w wr) := hbw
      clear q0 r0 hp hbw
      go_wp2_with fail
      go_quiet (fail)
      have HB4 : Hid (Below w.heap.size w (wr.drewN nq)) := below_drewN HBW.out nq
      go_wp2
      go_roundw
      case rel => exact ⟨k + 1, by omega, by go_num, HB4.out⟩
      case measure => simp [intOf]; omega
    · go_wp2
      go_ret
      exact ⟨rfl, hbw⟩
/-- Find on an overlay. -/
theorem find_ov {PX : Nat → Option Obj} {w : World} {B0 pb n : Nat} {bs : List Bool} {R : Bool → Nat → Rw} {nodes arcs : Int} (h : IsOv PX B0 w pb n bs R nodes arcs) (hw : WtB n R) (hn : n ≤ 512) (u skip : Int) (go : Option Addr) (gc : Nat) (gs : List Int) (hg : HasInts w (.slice go gs.length gc) gs) (hl : gs.length ≤ 1000) (mo hops se : Int) :
    Calls Tryz.prog 10 #[.pointer (some ⟨pb, 0, none⟩), .int .i64 u, .int .i64 skip, .slice go gs.length gc, .int .u64 mo, .int .i64 hops, .int .i64 se] w fun e w' => FindA n (rowsZ (rowW n bs R) skip n) (aliveB n bs) u hops se mo gs w e w' :=
  wfind_calls (ovF_of h hw) skip (rowsZ_fine (rowsW_of h.inv hw) hn) (fun v hv => rowsZ_row hv) (by omega) u go gc gs hg hl mo hops se
/-- New's rows, without their places. -/
def newR (zs : List (Int × Int × Int)) : Bool → Nat → Rw := fun s u => (.slice none 0 0, sideL s zs u, 0)
theorem rowW_new {n : Nat} {bs : List Bool} {R : Bool → Nat → Rw} {zs : List (Int × Int × Int)} (hR : ∀ s u, u < n → (R s u).2 = (sideL s zs u, 0)) : rowW n bs R = rowW n bs (newR zs) := by
  funext v
  unfold rowW
  split
  · rename_i h
    obtain ⟨u, e, hu, _⟩ := aliveB_iff.1 h
    obtain rfl : v = u := by omega
    rw [hR false v hu]
    rfl
  · rfl
theorem side_mem {s : Bool} {zs : List (Int × Int × Int)} {u : Nat} {a : H3} (h : a ∈ sideL s zs u) : ∃ b ∈ zs, a.2.1 = b.2.2 := by
  unfold sideL at h
  split at h
  · obtain ⟨b, hb, rfl⟩ := List.mem_map.1 h
    exact ⟨b, (List.mem_filter.1 hb).1, rfl⟩
  · obtain ⟨b, hb, rfl⟩ := List.mem_map.1 h
    exact ⟨b, (List.mem_filter.1 hb).1, rfl⟩
theorem wtB_new {n : Nat} {xs : List (Int × Int × Int)} {R : Bool → Nat → Rw} (hg : graphErr (n : Int) xs = (0, [])) (hR : ∀ s u, u < n → (R s u).2 = (sideL s (normA xs) u, 0)) : WtB n R := fun s v hv a ha => by
  rw [hR s v hv] at ha
  obtain ⟨b, hb, e⟩ := side_mem ha
  have h3 := ((good_iff _ _).1 (good_norm hg)).2 b hb
  rw [e]
  unfold arcBad at h3
  split at h3
  · cases h3
  · split at h3
    · cases h3
    · omega
end Go.Proofs.YtcfpkbmeblfhoaaGreat.Wt

namespace Go.Proofs.YtcfpkbmeblfhoaaGreat.Wt
open Go Go.RowKit Go.Extern

attribute [local go_sem] Oper.semAt_some

def xsQ : List (Int × Int × Int) := [(0, 1, 4), (1, 2, 1), (0, 2, 9), (2, 3, 2)]
def zsQ : List (Int × Int × Int) := [(0, 1, 4), (0, 2, 9), (1, 2, 1), (2, 3, 2)]
theorem xsQ_good : graphErr ((4 : Nat) : Int) xsQ = (0, []) := by kernel_rfl
theorem xsQ_norm : normA xsQ = zsQ := by kernel_rfl
def bsQ : List Bool := List.replicate 4 true
/-- an overlay of the law's graph. -/
def FourO (w : World) (B pb : Nat) : Prop := ∃ R, IsOv noP B w pb 4 bsQ R 4 4 ∧ WtB 4 R ∧ rowW 4 bsQ R = rowW 4 bsQ (newR zsQ)
theorem FourO.keep {w w' : World} {B pb : Nat} (h : FourO w B pb) (hb : Below w.heap.size w w') : FourO w' B pb := by
  obtain ⟨R, h1, h2⟩ := h
  exact ⟨R, h1.keep hb, h2⟩
/-- what Find answers there. -/
def ansQ (skip : Int) (u : Nat) (hops se mo : Int) (gs : List Int) : List Int := findL 4 (rowsZ (rowW 4 bsQ (newR zsQ)) skip 4) u hops se mo gs
theorem FourO.find {w : World} {B pb : Nat} (h : FourO w B pb) (u : Nat) (skip : Int) (go : Option Addr) (gc : Nat) (gs : List Int) (hg : HasInts w (.slice go gs.length gc) gs) (hl : gs.length ≤ 1000) (mo hops se : Int) (he : findErr (aliveB 4 bsQ) (u : Int) gs = (0, [])) :
    Calls Tryz.prog 10 #[.pointer (some ⟨pb, 0, none⟩), .int .i64 (u : Int), .int .i64 skip, .slice go gs.length gc, .int .u64 mo, .int .i64 hops, .int .i64 se] w fun e w' => ∃ db, e = .returned (.tuple #[.slice (some ⟨db, 0, none⟩) gs.length gs.length, .nilIface]) ∧ U64s w' db (ansQ skip u hops se mo gs) ∧ Below w.heap.size w w' := by
  obtain ⟨R, h1, h2, h3⟩ := h
  refine (find_ov h1 h2 (by omega) (u : Int) skip go gc gs hg hl mo hops se).mono ?_
  rintro e w' ⟨hb, ⟨_, db, rfl, _, hu⟩ | ⟨hne, _⟩⟩
  · rw [h3, Int.toNat_natCast] at hu
    exact ⟨db, rfl, hu, hb⟩
  · exact absurd he hne
theorem arcsQ {W : World} {b : Nat} (h : W.heap[b]? = some (.cells #[.int .i64 0, .int .i64 1, .int .i64 4, .int .i64 1, .int .i64 2, .int .i64 1, .int .i64 0, .int .i64 2, .int .i64 9, .int .i64 2, .int .i64 3, .int .i64 2] 79)) : HasArcs W (.slice (some ⟨b, 0, none⟩) 4 4) xsQ := by
  refine ⟨_, 4, rfl, fun j a hj => ⟨b, 0, rfl, lt_of_get h, ?_⟩⟩
  unfold xsQ at hj
  rcases j with _ | _ | _ | _ | j
  · cases hj; simp [World.cell?, h]
  · cases hj; simp [World.cell?, h]
  · cases hj; simp [World.cell?, h]
  · cases hj; simp [World.cell?, h]
  · simp at hj

set_option maxRecDepth 100000 in
set_option maxHeartbeats 4000000 in
theorem four12_calls (w : World) : Calls Tryz.prog 13 #[] w fun e w' => ∃ ab, e = .returned (.agg #[.int .i64 4, .slice (some ⟨ab, 0, none⟩) 4 4]) ∧ HasArcs w' (.slice (some ⟨ab, 0, none⟩) 4 4) xsQ ∧ Below w.heap.size w w' := by
  obtain ⟨W0, hW0⟩ : ∃ W0, (w.alloc (.cells #[.int .i64 4, .slice (some ⟨w.heap.size + 1, 0, none⟩) 4 4] 24)).alloc (.cells #[.int .i64 0, .int .i64 1, .int .i64 4, .int .i64 1, .int .i64 2, .int .i64 1, .int .i64 0, .int .i64 2, .int .i64 9, .int .i64 2, .int .i64 3, .int .i64 2] 79) = W0 := ⟨_, rfl⟩
  have HW0 : Hid ((w.alloc (.cells #[.int .i64 4, .slice (some ⟨w.heap.size + 1, 0, none⟩) 4 4] 24)).alloc (.cells #[.int .i64 0, .int .i64 1, .int .i64 4, .int .i64 1, .int .i64 2, .int .i64 1, .int .i64 0, .int .i64 2, .int .i64 9, .int .i64 2, .int .i64 3, .int .i64 2] 79) = W0) := hW0
  have hB0 : Below w.heap.size w W0 := by rw [← hW0]; exact ((Below.refl _ w).alloc (Nat.le_refl _) _).alloc (by simp) _
  have k1 : W0.heap[w.heap.size]? = some (.cells #[.int .i64 4, .slice (some ⟨w.heap.size + 1, 0, none⟩) 4 4] 24) := by rw [← hW0, Below.heap_alloc _ _ _ (by simp)]; exact heap_new _ _
  have k2 : W0.heap[w.heap.size + 1]? = some (.cells #[.int .i64 0, .int .i64 1, .int .i64 4, .int .i64 1, .int .i64 2, .int .i64 1, .int .i64 0, .int .i64 2, .int .i64 9, .int .i64 2, .int .i64 3, .int .i64 2] 79) := by
    have h := heap_new (w.alloc (.cells #[.int .i64 4, .slice (some ⟨w.heap.size + 1, 0, none⟩) 4 4] 24)) (.cells #[.int .i64 0, .int .i64 1, .int .i64 4, .int .i64 1, .int .i64 2, .int .i64 1, .int .i64 0, .int .i64 2, .int .i64 9, .int .i64 2, .int .i64 3, .int .i64 2] 79)
    rw [hW0] at h
    simpa using h
  have HB : Hid (Below w.heap.size w W0 ∧ W0.heap[w.heap.size]? = some (.cells #[.int .i64 4, .slice (some ⟨w.heap.size + 1, 0, none⟩) 4 4] 24) ∧ W0.heap[w.heap.size + 1]? = some (.cells #[.int .i64 0, .int .i64 1, .int .i64 4, .int .i64 1, .int .i64 2, .int .i64 1, .int .i64 0, .int .i64 2, .int .i64 9, .int .i64 2, .int .i64 3, .int .i64 2] 79)) := ⟨hB0, k1, k2⟩
  clear hW0 hB0 k1 k2
  go_enter Tryz.func13, Tryz.ntmps13
  go_wp2
  rw [HW0.out]
  have r0 : W0.cell? ⟨w.heap.size, 0, none⟩ = some (.int .i64 4) := by simp [World.cell?, HB.out.2.1]
  have r1 : W0.cell? ⟨w.heap.size, 1, none⟩ = some (.slice (some ⟨w.heap.size + 1, 0, none⟩) 4 4) := by simp [World.cell?, HB.out.2.1]
  refine bodyPost_ret (v := .agg #[.int .i64 4, .slice (some ⟨w.heap.size + 1, 0, none⟩) 4 4]) (by simp [results, Tryz.results13, go_sem, r0, r1]) rfl ?_
  exact ⟨w.heap.size + 1, rfl, arcsQ HB.out.2.2, HB.out.1⟩
/-- New of the law's graph. -/
theorem newQ_calls {w : World} {ab : Nat} (h : HasArcs w (.slice (some ⟨ab, 0, none⟩) 4 4) xsQ) : Calls Tryz.prog 12 #[.agg #[.int .i64 4, .slice (some ⟨ab, 0, none⟩) 4 4]] w fun e w' => ∃ pb, e = .returned (.tuple #[.pointer (some ⟨pb, 0, none⟩), .nilIface]) ∧ FourO w' w.heap.size pb ∧ Below w.heap.size w w' := by
  refine (ov_new (n := 4) (some ⟨ab, 0, none⟩) 4 4 xsQ w h xsQ_good).mono ?_
  rintro e w' ⟨pb, R, rfl, h1, h2, h3⟩
  have hw := wtB_new xsQ_good h2
  rw [xsQ_norm] at h1 h2
  exact ⟨pb, rfl, ⟨R, h1, hw, rowW_new h2⟩, h3⟩
theorem ints_two (w : World) (x y : Int) : HasInts (w.alloc (.cells #[.int .i64 x, .int .i64 y] 3)) (.slice (some ⟨w.heap.size, 0, none⟩) 2 2) [x, y] := by
  have k0 := heap_new w (.cells #[.int .i64 x, .int .i64 y] 3)
  generalize w.alloc (.cells #[.int .i64 x, .int .i64 y] 3) = W0 at *
  refine ⟨_, 2, rfl, fun j a hj => ⟨w.heap.size, 0, rfl, lt_of_get k0, ?_⟩⟩
  rcases j with _ | _ | j <;> simp at hj <;> subst hj <;> simp [World.cell?, k0]
theorem ans1 : findErr (aliveB 4 bsQ) ((0 : Nat) : Int) [2, 3] = (0, []) ∧ ansQ 1 0 5 5 99 [2, 3] = [9, 11] ∧ ansQ (-1) 0 5 5 99 [2, 3] = [5, 7] := ⟨by kernel_rfl, by kernel_rfl, by kernel_rfl⟩
/-- Find at the law's graph with two goals. -/
theorem findQ {w : World} {B pb : Nat} (h : FourO w B pb) (skip : Int) (xs : List Int) (hx : ansQ skip 0 5 5 99 [2, 3] = xs) : Calls Tryz.prog 10 #[.pointer (some ⟨pb, 0, none⟩), .int .i64 0, .int .i64 skip, .slice (some ⟨w.heap.size, 0, none⟩) 2 2, .int .u64 99, .int .i64 5, .int .i64 5] (w.alloc (.cells #[.int .i64 2, .int .i64 3] 3)) fun e w' => ∃ db, e = .returned (.tuple #[.slice (some ⟨db, 0, none⟩) 2 2, .nilIface]) ∧ U64s w' db xs ∧ Below w.heap.size w w' := by
  have hbA : Below w.heap.size w (w.alloc (.cells #[.int .i64 2, .int .i64 3] 3)) := (Below.refl _ w).alloc (Nat.le_refl _) _
  refine ((h.keep hbA).find 0 skip (some ⟨w.heap.size, 0, none⟩) 2 [2, 3] (ints_two w 2 3) (by decide) 99 5 5 ans1.1).mono ?_
  rintro e w' ⟨db, rfl, hu, hb⟩
  rw [hx] at hu
  exact ⟨db, rfl, hu, hbA.trans (hb.mono hbA.size)⟩
/-- SameRow at a row and a new one. -/
theorem sameQ {w : World} {db : Nat} (x y : Int) (h : U64s w db [x, y]) : Calls Tryz.prog 14 #[.slice (some ⟨db, 0, none⟩) 2 2, .slice (some ⟨w.heap.size, 0, none⟩) 2 2] (w.alloc (.cells #[.int .u64 x, .int .u64 y] 26)) fun e w' => e = .returned (.bool true) ∧ Below w.heap.size w w' := by
  have hbA : Below w.heap.size w (w.alloc (.cells #[.int .u64 x, .int .u64 y] 26)) := (Below.refl _ w).alloc (Nat.le_refl _) _
  refine (sameRow_yes (some ⟨db, 0, none⟩) (some ⟨w.heap.size, 0, none⟩) 2 2 [x, y] _ (URow.keep (Or.inr ⟨db, rfl, h⟩) hbA) (Or.inr ⟨w.heap.size, rfl, heap_new _ _⟩) (by simp [maxLen])).mono ?_
  rintro e w' ⟨rfl, hb⟩
  exact ⟨rfl, hbA.trans (hb.mono hbA.size)⟩

set_option maxRecDepth 100000 in
set_option maxHeartbeats 4000000 in
theorem awake12_calls (w : World) : Calls Tryz.prog 5 #[] w fun e w' => e = .returned (.bool true) ∧ Below w.heap.size w w' := by
  go_enter Tryz.func5, Tryz.ntmps5
  go_wp2_with fail
  refine (four12_calls w).mono ?_
  rintro e w1 ⟨ab, rfl, hA, hb1⟩
  have H1 : Hid (HasArcs w1 (.slice (some ⟨ab, 0, none⟩) 4 4) xsQ ∧ Below w.heap.size w w1) := ⟨hA, hb1⟩
  clear hA hb1
  go_wp2_with fail
  refine (newQ_calls H1.out.1).mono ?_
  rintro e w2 ⟨pb, rfl, hO, hb2⟩
  have H2 : Hid (FourO w2 w1.heap.size pb ∧ Below w.heap.size w w2) := ⟨hO, H1.out.2.trans (hb2.mono H1.out.2.size)⟩
  clear hO hb2 H1
  have HF1 : Hid (type_of% (findQ H2.out.1 1 [9, 11] ans1.2.1)) := findQ H2.out.1 1 [9, 11] ans1.2.1
  go_wp2_with fail
  refine HF1.out.mono ?_
  rintro e w3 ⟨d1, rfl, hu, hb3⟩
  have H3 : Hid (FourO w3 w1.heap.size pb ∧ U64s w3 d1 [9, 11] ∧ Below w.heap.size w w3) := ⟨H2.out.1.keep hb3, hu, H2.out.2.trans (hb3.mono H2.out.2.size)⟩
  clear hu hb3 HF1 H2
  have HF2 : Hid (type_of% (findQ H3.out.1 (-1) [5, 7] ans1.2.2)) := findQ H3.out.1 (-1) [5, 7] ans1.2.2
  go_wp2_with fail
  refine HF2.out.mono ?_
  rintro e w4 ⟨d2, rfl, hu, hb4⟩
  have H4 : Hid (U64s w4 d1 [9, 11] ∧ U64s w4 d2 [5, 7] ∧ Below w.heap.size w w4) := ⟨(hb4.block _ (lt_of_get H3.out.2.1)).trans H3.out.2.1, hu, H3.out.2.2.trans (hb4.mono H3.out.2.2.size)⟩
  clear hu hb4 HF2 H3
  have HS1 : Hid (type_of% (sameQ 9 11 H4.out.1)) := sameQ 9 11 H4.out.1
  go_wp2_with fail
  refine HS1.out.mono ?_
  rintro e w5 ⟨rfl, hb5⟩
  have H5 : Hid (U64s w5 d2 [5, 7] ∧ Below w.heap.size w w5) := ⟨(hb5.block _ (lt_of_get H4.out.2.1)).trans H4.out.2.1, H4.out.2.2.trans (hb5.mono H4.out.2.2.size)⟩
  clear hb5 HS1 H4
  have HS2 : Hid (type_of% (sameQ 5 7 H5.out.1)) := sameQ 5 7 H5.out.1
  go_wp2_with fail
  refine HS2.out.mono ?_
  rintro e w6 ⟨rfl, hb6⟩
  have H6 : Hid (Below w.heap.size w w6) := H5.out.2.trans (hb6.mono H5.out.2.size)
  clear hb6 HS2 H5
  go_wp2
  go_ret
  exact ⟨rfl, H6.out⟩
end Go.Proofs.YtcfpkbmeblfhoaaGreat.Wt
