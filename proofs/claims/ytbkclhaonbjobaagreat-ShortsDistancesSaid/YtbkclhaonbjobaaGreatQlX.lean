/- viaductref04.SameRow at rows that are one; Find on an overlay that New made. the law's own graph; awake. Bounds, the program's and the document's. (From WitnessBounds' text.) -/
import Derived.Test.YtbkclhaonbjobaaGreatWu3
import Derived.BigQuiet
namespace Go.Proofs.YtbkclhaonbjobaaGreat.Wt
open Go Go.RowKit Go.Extern

attribute [local go_sem] Oper.semAt_some

/-- a row of numbers, or none at all. -/
def URow (w : World) (ao : Option Addr) (D : List Int) : Prop := (ao = none ∧ D = []) ∨ ∃ b, ao = some ⟨b, 0, none⟩ ∧ U64s w b D
/-- New's rows, without their places. -/
def newR (zs : List (Int × Int × Int)) : Bool → Nat → Rw := fun s u => (.slice none 0 0, sideL s zs u, 0)
theorem rowW_new {n : Nat} {bs : List Bool} {R : Bool → Nat → Rw} {zs : List (Int × Int × Int)} (hR : ∀ s u, u < n → (R s u).2 = (sideL s zs u, 0)) : rowW n bs R = rowW n bs (newR zs) := by
  funext v
  unfold rowW
  split
  · rename_i h
    obtain ⟨u, e, hu, _⟩ := aliveB_iff.1 h
    obtain rfl : v = u := by omega
    rw [hR false v hu]
    rfl
  · rfl
end Go.Proofs.YtbkclhaonbjobaaGreat.Wt

namespace Go.Proofs.YtbkclhaonbjobaaGreat.Wt
open Go Go.RowKit Go.Extern

attribute [local go_sem] Oper.semAt_some

def xsQ : List (Int × Int × Int) := [(0, 1, 4), (1, 2, 1), (0, 2, 9), (2, 3, 2)]
def zsQ : List (Int × Int × Int) := [(0, 1, 4), (0, 2, 9), (1, 2, 1), (2, 3, 2)]
theorem xsQ_good : graphErr ((4 : Nat) : Int) xsQ = (0, []) := by kernel_rfl
theorem xsQ_norm : normA xsQ = zsQ := by kernel_rfl
def bsQ : List Bool := List.replicate 4 true
/-- an overlay of the law's graph. -/
def FourO (w : World) (B pb : Nat) : Prop := ∃ R, IsOv noP B w pb 4 bsQ R 4 4 ∧ WtB 4 R ∧ rowW 4 bsQ R = rowW 4 bsQ (newR zsQ)
/-- what Find answers there. -/
def ansQ (skip : Int) (u : Nat) (hops se mo : Int) (gs : List Int) : List Int := findL 4 (rowsZ (rowW 4 bsQ (newR zsQ)) skip 4) u hops se mo gs
theorem arcsQ {W : World} {b : Nat} (h : W.heap[b]? = some (.cells #[.int .i64 0, .int .i64 1, .int .i64 4, .int .i64 1, .int .i64 2, .int .i64 1, .int .i64 0, .int .i64 2, .int .i64 9, .int .i64 2, .int .i64 3, .int .i64 2] 84)) : HasArcs W (.slice (some ⟨b, 0, none⟩) 4 4) xsQ := by
  refine ⟨_, 4, rfl, fun j a hj => ⟨b, 0, rfl, lt_of_get h, ?_⟩⟩
  unfold xsQ at hj
  rcases j with _ | _ | _ | _ | j
  · cases hj; simp [World.cell?, h]
  · cases hj; simp [World.cell?, h]
  · cases hj; simp [World.cell?, h]
  · cases hj; simp [World.cell?, h]
  · simp at hj

set_option maxRecDepth 100000 in
set_option maxHeartbeats 4000000 in
theorem four12_calls (w : World) : Calls Tryz.prog 22 #[] w fun e w' => ∃ ab, e = .returned (.agg #[.int .i64 4, .slice (some ⟨ab, 0, none⟩) 4 4]) ∧ HasArcs w' (.slice (some ⟨ab, 0, none⟩) 4 4) xsQ ∧ Below w.heap.size w w' := by
  obtain ⟨W0, hW0⟩ : ∃ W0, (w.alloc (.cells #[.int .i64 4, .slice (some ⟨w.heap.size + 1, 0, none⟩) 4 4] 24)).alloc (.cells #[.int .i64 0, .int .i64 1, .int .i64 4, .int .i64 1, .int .i64 2, .int .i64 1, .int .i64 0, .int .i64 2, .int .i64 9, .int .i64 2, .int .i64 3, .int .i64 2] 84) = W0 := ⟨_, rfl⟩
  have HW0 : Hid ((w.alloc (.cells #[.int .i64 4, .slice (some ⟨w.heap.size + 1, 0, none⟩) 4 4] 24)).alloc (.cells #[.int .i64 0, .int .i64 1, .int .i64 4, .int .i64 1, .int .i64 2, .int .i64 1, .int .i64 0, .int .i64 2, .int .i64 9, .int .i64 2, .int .i64 3, .int .i64 2] 84) = W0) := hW0
  have hB0 : Below w.heap.size w W0 := by rw [← hW0]; exact ((Below.refl _ w).alloc (Nat.le_refl _) _).alloc (by simp) _
  have k1 : W0.heap[w.heap.size]? = some (.cells #[.int .i64 4, .slice (some ⟨w.heap.size + 1, 0, none⟩) 4 4] 24) := by rw [← hW0, Below.heap_alloc _ _ _ (by simp)]; exact heap_new _ _
  have k2 : W0.heap[w.heap.size + 1]? = some (.cells #[.int .i64 0, .int .i64 1, .int .i64 4, .int .i64 1, .int .i64 2, .int .i64 1, .int .i64 0, .int .i64 2, .int .i64 9, .int .i64 2, .int .i64 3, .int .i64 2] 84) := by
    have h := heap_new (w.alloc (.cells #[.int .i64 4, .slice (some ⟨w.heap.size + 1, 0, none⟩) 4 4] 24)) (.cells #[.int .i64 0, .int .i64 1, .int .i64 4, .int .i64 1, .int .i64 2, .int .i64 1, .int .i64 0, .int .i64 2, .int .i64 9, .int .i64 2, .int .i64 3, .int .i64 2] 84)
    rw [hW0] at h
    simpa using h
  have HB : Hid (Below w.heap.size w W0 ∧ W0.heap[w.heap.size]? = some (.cells #[.int .i64 4, .slice (some ⟨w.heap.size + 1, 0, none⟩) 4 4] 24) ∧ W0.heap[w.heap.size + 1]? = some (.cells #[.int .i64 0, .int .i64 1, .int .i64 4, .int .i64 1, .int .i64 2, .int .i64 1, .int .i64 0, .int .i64 2, .int .i64 9, .int .i64 2, .int .i64 3, .int .i64 2] 84)) := ⟨hB0, k1, k2⟩
  clear hW0 hB0 k1 k2
  go_enter Tryz.func22, Tryz.ntmps22
  go_wp2
  rw [HW0.out]
  have r0 : W0.cell? ⟨w.heap.size, 0, none⟩ = some (.int .i64 4) := by simp [World.cell?, HB.out.2.1]
  have r1 : W0.cell? ⟨w.heap.size, 1, none⟩ = some (.slice (some ⟨w.heap.size + 1, 0, none⟩) 4 4) := by simp [World.cell?, HB.out.2.1]
  refine bodyPost_ret (v := .agg #[.int .i64 4, .slice (some ⟨w.heap.size + 1, 0, none⟩) 4 4]) (by simp [results, Tryz.results22, go_sem, r0, r1]) rfl ?_
  exact ⟨w.heap.size + 1, rfl, arcsQ HB.out.2.2, HB.out.1⟩
end Go.Proofs.YtbkclhaonbjobaaGreat.Wt

namespace Go.Proofs.YtbkclhaonbjobaaGreat.Wt
open Go Go.RowKit Go.Deep Go.Extern

attribute [local go_sem] Oper.semAt_some

set_option maxHeartbeats 1000000 in
theorem wbound_calls (n : Int) (w : World) : Calls Tryz.prog 87 #[.int .i64 n] w fun e w' => e = .returned (.int .i64 (min (max n 0) 1048576)) ∧ w' = w := by
  go_enter Tryz.func87, Tryz.ntmps87
  go_wp2
  go_ret
  exact ⟨rfl, rfl⟩
/-- options in a box. -/
def optObj (a b c d e : Int) : Obj := .cells #[.int .i64 a, .int .i64 b, .int .i64 c, .int .i64 d, .int .i64 e] 27 (0, 0)
theorem opt_cells {w : World} {X : Nat} {a b c d e : Int} (h : w.heap[X]? = some (optObj a b c d e)) : w.cell? ⟨X, 0, none⟩ = some (.int .i64 a) ∧ w.cell? ⟨X, 1, none⟩ = some (.int .i64 b) ∧ X < w.heap.size := by
  have hl := lt_of_get h
  unfold optObj at h
  refine ⟨?_, ?_, hl⟩ <;> simp [World.cell?, h]
theorem opt_all {w : World} {X : Nat} {a b c d e : Int} (h : w.heap[X]? = some (optObj a b c d e)) : w.cell? ⟨X, 2, none⟩ = some (.int .i64 c) ∧ w.cell? ⟨X, 3, none⟩ = some (.int .i64 d) ∧ w.cell? ⟨X, 4, none⟩ = some (.int .i64 e) := by
  unfold optObj at h
  refine ⟨?_, ?_, ?_⟩ <;> simp [World.cell?, h]

set_option maxRecDepth 100000 in
set_option maxHeartbeats 2000000 in
theorem wbounds_calls (a b c d e : Int) (w : World) : Calls Tryz.prog 69 #[.agg #[.int .i64 a, .int .i64 b, .int .i64 c, .int .i64 d, .int .i64 e]] w fun en w' => en = .returned (.tuple #[.int .i64 (min (max a 0) 1048576), .int .i64 (min (max b 0) 1048576)]) ∧ Below w.heap.size w w' := by
  obtain ⟨W0, hW0⟩ : ∃ W0, w.alloc (optObj a b c d e) = W0 := ⟨_, rfl⟩
  have HW0 : Hid (w.alloc (.cells #[.int .i64 a, .int .i64 b, .int .i64 c, .int .i64 d, .int .i64 e] 27) = W0) := hW0
  have hB0 : Below w.heap.size w W0 := by rw [← hW0]; exact (Below.refl _ w).alloc (Nat.le_refl _) _
  have k1 : W0.heap[w.heap.size]? = some (optObj a b c d e) := by rw [← hW0]; exact heap_new _ _
  obtain ⟨c0, c1, cs⟩ := opt_cells k1
  have HB : Hid (Below w.heap.size w W0) := hB0
  have HA : Hid (∀ wx, Calls Tryz.prog 87 #[.int .i64 a] wx fun e w' => e = .returned (.int .i64 (min (max a 0) 1048576)) ∧ w' = wx) := fun wx => wbound_calls a wx
  have HC : Hid (∀ wx, Calls Tryz.prog 87 #[.int .i64 b] wx fun e w' => e = .returned (.int .i64 (min (max b 0) 1048576)) ∧ w' = wx) := fun wx => wbound_calls b wx
  generalize min (max a 0) 1048576 = a1 at *
  generalize min (max b 0) 1048576 = b1 at *
  clear hW0 hB0 k1
  go_enter Tryz.func69, Tryz.ntmps69
  go_wp2_with fail
  rw [HW0.out]
  go_quiet (first | (go_at_call 87; exact Calls.quiet_of_same (HA.out _)) | (go_at_call 87; exact Calls.quiet_of_same (HC.out _)))
  have HZ : Hid (Below w.heap.size w (W0.drewN nq)) := below_drewN HB.out nq
  go_wp2
  go_ret2
  exact ⟨rfl, HZ.out⟩

end Go.Proofs.YtbkclhaonbjobaaGreat.Wt
