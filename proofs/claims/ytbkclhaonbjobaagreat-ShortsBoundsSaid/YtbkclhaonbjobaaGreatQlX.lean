/- viaductref04.SameRow at rows that are one; Find on an overlay that New made. the law's own graph; awake. Bounds, the program's and the document's. (From WitnessBounds' text.) -/
import Derived.Test.YtbkclhaonbjobaaGreatWu3
import Derived.BigQuiet
namespace Go.Proofs.YtbkclhaonbjobaaGreat.Wt
open Go Go.RowKit Go.Extern

attribute [local go_sem] Oper.semAt_some

/-- a row of numbers, or none at all. -/
def URow (w : World) (ao : Option Addr) (D : List Int) : Prop := (ao = none ∧ D = []) ∨ ∃ b, ao = some ⟨b, 0, none⟩ ∧ U64s w b D
theorem URow.at {w : World} {ao : Option Addr} {D : List Int} (h : URow w ao D) {k : Nat} {x : Int} (hk : D[k]? = some x) : ∃ b, ao = some ⟨b, 0, none⟩ ∧ b < w.heap.size ∧ w.cell? ⟨b, k, none⟩ = some (.int .u64 x) := by
  rcases h with ⟨_, rfl⟩ | ⟨b, h1, h2⟩
  · simp at hk
  · exact ⟨b, h1, (h2.at hk).2.1, (h2.at hk).1⟩
theorem URow.keep {w w' : World} {ao : Option Addr} {D : List Int} (h : URow w ao D) (hb : Below w.heap.size w w') : URow w' ao D := by
  rcases h with h | ⟨b, h1, h2⟩
  · exact Or.inl h
  · exact Or.inr ⟨b, h1, (hb.block _ (lt_of_get h2)).trans h2⟩

/-- Find on an overlay. -/
theorem find_ov {PX : Nat → Option Obj} {w : World} {B0 pb n : Nat} {bs : List Bool} {R : Bool → Nat → Rw} {nodes arcs : Int} (h : IsOv PX B0 w pb n bs R nodes arcs) (hw : WtB n R) (hn : n ≤ 512) (u skip : Int) (go : Option Addr) (gc : Nat) (gs : List Int) (hg : HasInts w (.slice go gs.length gc) gs) (hl : gs.length ≤ 1000) (mo hops se : Int) :
    Calls Tryz.prog 70 #[.pointer (some ⟨pb, 0, none⟩), .int .i64 u, .int .i64 skip, .slice go gs.length gc, .int .u64 mo, .int .i64 hops, .int .i64 se] w fun e w' => FindA n (rowsZ (rowW n bs R) skip n) (aliveB n bs) u hops se mo gs w e w' :=
  wfind_calls (ovF_of h hw) skip (rowsZ_fine (rowsW_of h.inv hw) hn) (fun v hv => rowsZ_row hv) (by omega) u go gc gs hg hl mo hops se
/-- New's rows, without their places. -/
def newR (zs : List (Int × Int × Int)) : Bool → Nat → Rw := fun s u => (.slice none 0 0, sideL s zs u, 0)
theorem rowW_new {n : Nat} {bs : List Bool} {R : Bool → Nat → Rw} {zs : List (Int × Int × Int)} (hR : ∀ s u, u < n → (R s u).2 = (sideL s zs u, 0)) : rowW n bs R = rowW n bs (newR zs) := by
  funext v
  unfold rowW
  split
  · rename_i h
    obtain ⟨u, e, hu, _⟩ := aliveB_iff.1 h
    obtain rfl : v = u := by omega
    rw [hR false v hu]
    rfl
  · rfl
theorem side_mem {s : Bool} {zs : List (Int × Int × Int)} {u : Nat} {a : H3} (h : a ∈ sideL s zs u) : ∃ b ∈ zs, a.2.1 = b.2.2 := by
  unfold sideL at h
  split at h
  · obtain ⟨b, hb, rfl⟩ := List.mem_map.1 h
    exact ⟨b, (List.mem_filter.1 hb).1, rfl⟩
  · obtain ⟨b, hb, rfl⟩ := List.mem_map.1 h
    exact ⟨b, (List.mem_filter.1 hb).1, rfl⟩
theorem wtB_new {n : Nat} {xs : List (Int × Int × Int)} {R : Bool → Nat → Rw} (hg : graphErr (n : Int) xs = (0, [])) (hR : ∀ s u, u < n → (R s u).2 = (sideL s (normA xs) u, 0)) : WtB n R := fun s v hv a ha => by
  rw [hR s v hv] at ha
  obtain ⟨b, hb, e⟩ := side_mem ha
  have h3 := ((good_iff _ _).1 (good_norm hg)).2 b hb
  rw [e]
  unfold arcBad at h3
  split at h3
  · cases h3
  · split at h3
    · cases h3
    · omega
end Go.Proofs.YtbkclhaonbjobaaGreat.Wt

namespace Go.Proofs.YtbkclhaonbjobaaGreat.Wt
open Go Go.RowKit Go.Extern

attribute [local go_sem] Oper.semAt_some

def xsQ : List (Int × Int × Int) := [(0, 1, 4), (1, 2, 1), (0, 2, 9), (2, 3, 2)]
def zsQ : List (Int × Int × Int) := [(0, 1, 4), (0, 2, 9), (1, 2, 1), (2, 3, 2)]
theorem xsQ_good : graphErr ((4 : Nat) : Int) xsQ = (0, []) := by kernel_rfl
theorem xsQ_norm : normA xsQ = zsQ := by kernel_rfl
def bsQ : List Bool := List.replicate 4 true
/-- an overlay of the law's graph. -/
def FourO (w : World) (B pb : Nat) : Prop := ∃ R, IsOv noP B w pb 4 bsQ R 4 4 ∧ WtB 4 R ∧ rowW 4 bsQ R = rowW 4 bsQ (newR zsQ)
theorem FourO.keep {w w' : World} {B pb : Nat} (h : FourO w B pb) (hb : Below w.heap.size w w') : FourO w' B pb := by
  obtain ⟨R, h1, h2⟩ := h
  exact ⟨R, h1.keep hb, h2⟩
/-- what Find answers there. -/
def ansQ (skip : Int) (u : Nat) (hops se mo : Int) (gs : List Int) : List Int := findL 4 (rowsZ (rowW 4 bsQ (newR zsQ)) skip 4) u hops se mo gs
theorem FourO.find {w : World} {B pb : Nat} (h : FourO w B pb) (u : Nat) (skip : Int) (go : Option Addr) (gc : Nat) (gs : List Int) (hg : HasInts w (.slice go gs.length gc) gs) (hl : gs.length ≤ 1000) (mo hops se : Int) (he : findErr (aliveB 4 bsQ) (u : Int) gs = (0, [])) :
    Calls Tryz.prog 70 #[.pointer (some ⟨pb, 0, none⟩), .int .i64 (u : Int), .int .i64 skip, .slice go gs.length gc, .int .u64 mo, .int .i64 hops, .int .i64 se] w fun e w' => ∃ db, e = .returned (.tuple #[.slice (some ⟨db, 0, none⟩) gs.length gs.length, .nilIface]) ∧ U64s w' db (ansQ skip u hops se mo gs) ∧ Below w.heap.size w w' := by
  obtain ⟨R, h1, h2, h3⟩ := h
  refine (find_ov h1 h2 (by omega) (u : Int) skip go gc gs hg hl mo hops se).mono ?_
  rintro e w' ⟨hb, ⟨_, db, rfl, _, hu⟩ | ⟨hne, _⟩⟩
  · rw [h3, Int.toNat_natCast] at hu
    exact ⟨db, rfl, hu, hb⟩
  · exact absurd he hne
theorem arcsQ {W : World} {b : Nat} (h : W.heap[b]? = some (.cells #[.int .i64 0, .int .i64 1, .int .i64 4, .int .i64 1, .int .i64 2, .int .i64 1, .int .i64 0, .int .i64 2, .int .i64 9, .int .i64 2, .int .i64 3, .int .i64 2] 84)) : HasArcs W (.slice (some ⟨b, 0, none⟩) 4 4) xsQ := by
  refine ⟨_, 4, rfl, fun j a hj => ⟨b, 0, rfl, lt_of_get h, ?_⟩⟩
  unfold xsQ at hj
  rcases j with _ | _ | _ | _ | j
  · cases hj; simp [World.cell?, h]
  · cases hj; simp [World.cell?, h]
  · cases hj; simp [World.cell?, h]
  · cases hj; simp [World.cell?, h]
  · simp at hj

set_option maxRecDepth 100000 in
set_option maxHeartbeats 4000000 in
theorem four12_calls (w : World) : Calls Tryz.prog 22 #[] w fun e w' => ∃ ab, e = .returned (.agg #[.int .i64 4, .slice (some ⟨ab, 0, none⟩) 4 4]) ∧ HasArcs w' (.slice (some ⟨ab, 0, none⟩) 4 4) xsQ ∧ Below w.heap.size w w' := by
  obtain ⟨W0, hW0⟩ : ∃ W0, (w.alloc (.cells #[.int .i64 4, .slice (some ⟨w.heap.size + 1, 0, none⟩) 4 4] 24)).alloc (.cells #[.int .i64 0, .int .i64 1, .int .i64 4, .int .i64 1, .int .i64 2, .int .i64 1, .int .i64 0, .int .i64 2, .int .i64 9, .int .i64 2, .int .i64 3, .int .i64 2] 84) = W0 := ⟨_, rfl⟩
  have HW0 : Hid ((w.alloc (.cells #[.int .i64 4, .slice (some ⟨w.heap.size + 1, 0, none⟩) 4 4] 24)).alloc (.cells #[.int .i64 0, .int .i64 1, .int .i64 4, .int .i64 1, .int .i64 2, .int .i64 1, .int .i64 0, .int .i64 2, .int .i64 9, .int .i64 2, .int .i64 3, .int .i64 2] 84) = W0) := hW0
  have hB0 : Below w.heap.size w W0 := by rw [← hW0]; exact ((Below.refl _ w).alloc (Nat.le_refl _) _).alloc (by simp) _
  have k1 : W0.heap[w.heap.size]? = some (.cells #[.int .i64 4, .slice (some ⟨w.heap.size + 1, 0, none⟩) 4 4] 24) := by rw [← hW0, Below.heap_alloc _ _ _ (by simp)]; exact heap_new _ _
  have k2 : W0.heap[w.heap.size + 1]? = some (.cells #[.int .i64 0, .int .i64 1, .int .i64 4, .int .i64 1, .int .i64 2, .int .i64 1, .int .i64 0, .int .i64 2, .int .i64 9, .int .i64 2, .int .i64 3, .int .i64 2] 84) := by
    have h := heap_new (w.alloc (.cells #[.int .i64 4, .slice (some ⟨w.heap.size + 1, 0, none⟩) 4 4] 24)) (.cells #[.int .i64 0, .int .i64 1, .int .i64 4, .int .i64 1, .int .i64 2, .int .i64 1, .int .i64 0, .int .i64 2, .int .i64 9, .int .i64 2, .int .i64 3, .int .i64 2] 84)
    rw [hW0] at h
    simpa using h
  have HB : Hid (Below w.heap.size w W0 ∧ W0.heap[w.heap.size]? = some (.cells #[.int .i64 4, .slice (some ⟨w.heap.size + 1, 0, none⟩) 4 4] 24) ∧ W0.heap[w.heap.size + 1]? = some (.cells #[.int .i64 0, .int .i64 1, .int .i64 4, .int .i64 1, .int .i64 2, .int .i64 1, .int .i64 0, .int .i64 2, .int .i64 9, .int .i64 2, .int .i64 3, .int .i64 2] 84)) := ⟨hB0, k1, k2⟩
  clear hW0 hB0 k1 k2
  go_enter Tryz.func22, Tryz.ntmps22
  go_wp2
  rw [HW0.out]
  have r0 : W0.cell? ⟨w.heap.size, 0, none⟩ = some (.int .i64 4) := by simp [World.cell?, HB.out.2.1]
  have r1 : W0.cell? ⟨w.heap.size, 1, none⟩ = some (.slice (some ⟨w.heap.size + 1, 0, none⟩) 4 4) := by simp [World.cell?, HB.out.2.1]
  refine bodyPost_ret (v := .agg #[.int .i64 4, .slice (some ⟨w.heap.size + 1, 0, none⟩) 4 4]) (by simp [results, Tryz.results22, go_sem, r0, r1]) rfl ?_
  exact ⟨w.heap.size + 1, rfl, arcsQ HB.out.2.2, HB.out.1⟩
/-- New of the law's graph. -/
theorem newQ_calls {w : World} {ab : Nat} (h : HasArcs w (.slice (some ⟨ab, 0, none⟩) 4 4) xsQ) : Calls Tryz.prog 7 #[.agg #[.int .i64 4, .slice (some ⟨ab, 0, none⟩) 4 4]] w fun e w' => ∃ pb, e = .returned (.tuple #[.pointer (some ⟨pb, 0, none⟩), .nilIface]) ∧ FourO w' w.heap.size pb ∧ Below w.heap.size w w' := by
  refine (ov_new (n := 4) (some ⟨ab, 0, none⟩) 4 4 xsQ w h xsQ_good).mono ?_
  rintro e w' ⟨pb, R, rfl, h1, h2, h3⟩
  have hw := wtB_new xsQ_good h2
  rw [xsQ_norm] at h1 h2
  exact ⟨pb, rfl, ⟨R, h1, hw, rowW_new h2⟩, h3⟩
theorem ints_two (w : World) (x y : Int) : HasInts (w.alloc (.cells #[.int .i64 x, .int .i64 y] 3)) (.slice (some ⟨w.heap.size, 0, none⟩) 2 2) [x, y] := by
  have k0 := heap_new w (.cells #[.int .i64 x, .int .i64 y] 3)
  generalize w.alloc (.cells #[.int .i64 x, .int .i64 y] 3) = W0 at *
  refine ⟨_, 2, rfl, fun j a hj => ⟨w.heap.size, 0, rfl, lt_of_get k0, ?_⟩⟩
  rcases j with _ | _ | j <;> simp at hj <;> subst hj <;> simp [World.cell?, k0]
theorem ans1 : findErr (aliveB 4 bsQ) ((0 : Nat) : Int) [2, 3] = (0, []) ∧ ansQ 1 0 5 5 99 [2, 3] = [9, 11] ∧ ansQ (-1) 0 5 5 99 [2, 3] = [5, 7] := ⟨by kernel_rfl, by kernel_rfl, by kernel_rfl⟩
/-- Find at the law's graph with two goals. -/
theorem findQ {w : World} {B pb : Nat} (h : FourO w B pb) (skip : Int) (xs : List Int) (hx : ansQ skip 0 5 5 99 [2, 3] = xs) : Calls Tryz.prog 70 #[.pointer (some ⟨pb, 0, none⟩), .int .i64 0, .int .i64 skip, .slice (some ⟨w.heap.size, 0, none⟩) 2 2, .int .u64 99, .int .i64 5, .int .i64 5] (w.alloc (.cells #[.int .i64 2, .int .i64 3] 3)) fun e w' => ∃ db, e = .returned (.tuple #[.slice (some ⟨db, 0, none⟩) 2 2, .nilIface]) ∧ U64s w' db xs ∧ Below w.heap.size w w' := by
  have hbA : Below w.heap.size w (w.alloc (.cells #[.int .i64 2, .int .i64 3] 3)) := (Below.refl _ w).alloc (Nat.le_refl _) _
  refine ((h.keep hbA).find 0 skip (some ⟨w.heap.size, 0, none⟩) 2 [2, 3] (ints_two w 2 3) (by decide) 99 5 5 ans1.1).mono ?_
  rintro e w' ⟨db, rfl, hu, hb⟩
  rw [hx] at hu
  exact ⟨db, rfl, hu, hbA.trans (hb.mono hbA.size)⟩
end Go.Proofs.YtbkclhaonbjobaaGreat.Wt

namespace Go.Proofs.YtbkclhaonbjobaaGreat.Wt
open Go Go.RowKit Go.Deep Go.Extern

attribute [local go_sem] Oper.semAt_some

set_option maxHeartbeats 1000000 in
theorem wbound_calls (n : Int) (w : World) : Calls Tryz.prog 87 #[.int .i64 n] w fun e w' => e = .returned (.int .i64 (min (max n 0) 1048576)) ∧ w' = w := by
  go_enter Tryz.func87, Tryz.ntmps87
  go_wp2
  go_ret
  exact ⟨rfl, rfl⟩
/-- options in a box. -/
def optObj (a b c d e : Int) : Obj := .cells #[.int .i64 a, .int .i64 b, .int .i64 c, .int .i64 d, .int .i64 e] 27 (0, 0)
theorem opt_cells {w : World} {X : Nat} {a b c d e : Int} (h : w.heap[X]? = some (optObj a b c d e)) : w.cell? ⟨X, 0, none⟩ = some (.int .i64 a) ∧ w.cell? ⟨X, 1, none⟩ = some (.int .i64 b) ∧ X < w.heap.size := by
  have hl := lt_of_get h
  unfold optObj at h
  refine ⟨?_, ?_, hl⟩ <;> simp [World.cell?, h]
theorem opt_all {w : World} {X : Nat} {a b c d e : Int} (h : w.heap[X]? = some (optObj a b c d e)) : w.cell? ⟨X, 2, none⟩ = some (.int .i64 c) ∧ w.cell? ⟨X, 3, none⟩ = some (.int .i64 d) ∧ w.cell? ⟨X, 4, none⟩ = some (.int .i64 e) := by
  unfold optObj at h
  refine ⟨?_, ?_, ?_⟩ <;> simp [World.cell?, h]

set_option maxRecDepth 100000 in
set_option maxHeartbeats 2000000 in
theorem wbounds_calls (a b c d e : Int) (w : World) : Calls Tryz.prog 69 #[.agg #[.int .i64 a, .int .i64 b, .int .i64 c, .int .i64 d, .int .i64 e]] w fun en w' => en = .returned (.tuple #[.int .i64 (min (max a 0) 1048576), .int .i64 (min (max b 0) 1048576)]) ∧ Below w.heap.size w w' := by
  obtain ⟨W0, hW0⟩ : ∃ W0, w.alloc (optObj a b c d e) = W0 := ⟨_, rfl⟩
  have HW0 : Hid (w.alloc (.cells #[.int .i64 a, .int .i64 b, .int .i64 c, .int .i64 d, .int .i64 e] 27) = W0) := hW0
  have hB0 : Below w.heap.size w W0 := by rw [← hW0]; exact (Below.refl _ w).alloc (Nat.le_refl _) _
  have k1 : W0.heap[w.heap.size]? = some (optObj a b c d e) := by rw [← hW0]; exact heap_new _ _
  obtain ⟨c0, c1, cs⟩ := opt_cells k1
  have HB : Hid (Below w.heap.size w W0) := hB0
  have HA : Hid (∀ wx, Calls Tryz.prog 87 #[.int .i64 a] wx fun e w' => e = .returned (.int .i64 (min (max a 0) 1048576)) ∧ w' = wx) := fun wx => wbound_calls a wx
  have HC : Hid (∀ wx, Calls Tryz.prog 87 #[.int .i64 b] wx fun e w' => e = .returned (.int .i64 (min (max b 0) 1048576)) ∧ w' = wx) := fun wx => wbound_calls b wx
  generalize min (max a 0) 1048576 = a1 at *
  generalize min (max b 0) 1048576 = b1 at *
  clear hW0 hB0 k1
  go_enter Tryz.func69, Tryz.ntmps69
  go_wp2_with fail
  rw [HW0.out]
  go_quiet (first | (go_at_call 87; exact Calls.quiet_of_same (HA.out _)) | (go_at_call 87; exact Calls.quiet_of_same (HC.out _)))
  have HZ : Hid (Below w.heap.size w (W0.drewN nq)) := below_drewN HB.out nq
  go_wp2
  go_ret2
  exact ⟨rfl, HZ.out⟩

end Go.Proofs.YtbkclhaonbjobaaGreat.Wt
