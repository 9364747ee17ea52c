/- hier.Graph's closure; arcs sorted by it. -/
import Derived.Test.YtkehpmbnbknpfaaHrJ
import Derived.Test.YtkehpmbnbknpfaaNoX
namespace Go.Proofs.Ytkehpmbnbknpfaa.Hi
open Go.RowKit Go.Extern Go.Sort Go.Shelf

attribute [local go_sem] Oper.semAt_some

set_option maxRecDepth 100000 in
set_option maxHeartbeats 1000000 in
theorem byG_calls (a b : Int × Int × Int) (w : World) : Calls Try.prog 31 #[arcV a, arcV b] w fun e w' => e = .returned (.int .i64 (endsI a b)) ∧ Laid w w' := by
  obtain ⟨a0, a1, a2⟩ := a
  obtain ⟨b0, b1, b2⟩ := b
  unfold endsI arcV
  simp only
  go_enter Try.func31, Try.ntmps31
  go_wp2_with fail
  go_region_held (fun w' => w'.cell? ⟨w.heap.size, 0, none⟩ = some (.int .i64 a0) ∧ w'.cell? ⟨w.heap.size, 1, none⟩ = some (.int .i64 a1) ∧ w'.cell? ⟨w.heap.size + 1, 0, none⟩ = some (.int .i64 b0) ∧ w'.cell? ⟨w.heap.size + 1, 1, none⟩ = some (.int .i64 b1)) (go_keep) (first
    | (go_at_call 33; refine (compare_calls _ _ _).mono ?_; rintro e w' ⟨rfl, rfl⟩)
    | (go_at_call 32; refine (or_calls (cmpI a0 b0) (cmpI a1 b1) _ _ ?_ ?_).mono ?_; (show (World.alloc _ _).cell? _ = _; simp [World.cell?_alloc_at]); (show (World.alloc _ _).cell? _ = _; simp [World.cell?_alloc_at]); rintro e w' ⟨rfl, rfl⟩))
  all_goals
    go_wp2
    go_ret
    exact ⟨rfl, ((((Laid.refl w).alloc _).alloc _).alloc _).drew⟩
theorem ltE (x y : Int × Int × Int) : ltOf endsI x y = decide (x.1 < y.1 ∨ x.1 = y.1 ∧ x.2.1 < y.2.1) := by
  unfold ltOf endsI orI cmpI
  obtain ⟨x0, x1, x2⟩ := x
  obtain ⟨y0, y1, y2⟩ := y
  simp only
  rw [Bool.eq_iff_iff, decide_eq_true_iff, decide_eq_true_iff]
  by_cases h0 : x0 < y0 <;> by_cases h0' : y0 < x0 <;> by_cases h1 : x1 < y1 <;> by_cases h1' : y1 < x1 <;> simp [h0, h0', h1, h1'] <;> omega
theorem swoE : SWO (ltOf endsI) where
  irrefl x := by rw [ltE]; simp
  trans x y z h1 h2 := by rw [ltE] at *; simp at *; omega
  ntrans x y z h1 h2 := by rw [ltE] at *; simp at *; omega
theorem cmpLaysE (blk off size : Nat) (w : World) : CmpLays Try.prog 31 #[] encA 3 endsI blk off size w := fun m os dk _ x y => by
  refine (byG_calls x y _).mono ?_
  rintro e w' ⟨rfl, q, os', rfl⟩
  exact ⟨rfl, q, os', rfl⟩
/-- sorted by ends. -/
def sortE (l : List (Int × Int × Int)) : List (Int × Int × Int) := (pdq (ltOf endsI) l.toArray 0 l.toArray.size (Lib.bitLen l.toArray.size) true true).toList
theorem sortE_len (l : List (Int × Int × Int)) : (sortE l).length = l.length := by
  have hp := (pdq_sorts (ltOf endsI) swoE l.toArray 0 l.toArray.size (Lib.bitLen l.toArray.size) true true (Nat.zero_le _) (Nat.le_refl _) (Or.inl rfl)).1
  have := hp.1
  unfold sortE
  simpa using this
theorem sortG_calls (blk cap : Nat) (d : Array (Int × Int × Int)) (w : World) (hH : HoldsK encA 3 w blk 0 d) (hblk : blk < w.heap.size) (hsz : d.size < 4611686018427387904) :
    Calls Try.prog 30 #[.slice (some ⟨blk, 0, none⟩) d.size cap, .func (.func 31) #[] #[]] w fun e w' => e = .returned (.tuple #[]) ∧ HoldsK encA 3 w' blk 0 (pdq (ltOf endsI) d 0 d.size (Lib.bitLen d.size) true true) ∧ Touch blk w w' := by
  have hcon := AnyQ.slices_SortFunc_eq Try.sortArc 3 Try.isAgg49 Try.sizeOf49 encA (fun _ => rfl) (fun x v hv => by simp [encA] at hv; rcases hv with rfl | rfl | rfl <;> rfl) endsI swoE 31 #[] blk 0 cap d w (enters_of Try.func31 (by kernel_rfl) rfl) (cmpLaysE blk 0 d.size w) hH hblk hsz
  refine hcon.mono ?_
  rintro e w' ⟨rfl, n, os, rfl⟩
  have hp := (pdq_sorts (ltOf endsI) swoE d 0 d.size (Lib.bitLen d.size) true true (Nat.zero_le _) (Nat.le_refl _) (Or.inl rfl)).1
  generalize pdq (ltOf endsI) d 0 d.size (Lib.bitLen d.size) true true = d' at *
  have hs : d'.size = d.size := hp.1
  refine ⟨rfl, holdsK_grow encA 3 (putRowK encA 3 (Sort.ahead w n) blk 0 d') os blk 0 d' (by simp [putRowK, Sort.ahead]; exact hblk) (holdsK_putRowK encA 3 (Sort.ahead w n) blk 0 d d' (holdsK_ahead encA 3 w n blk 0 d hH) hs), rfl, rfl, rfl, ?_, fun k hk hne => ?_⟩
  · simp [sortWorldK, putRowK, Sort.ahead]
  · unfold sortWorldK
    rw [heap_grow_old _ _ (by simp [putRowK, Sort.ahead]; exact hk)]
    simp only [putRowK, putRow, mapBlock, Sort.ahead, Array.getElem?_modify]
    rw [if_neg (fun e => hne e.symm)]
/-- nothing, sorted. -/
theorem ins_nil (w : World) (f : Value) (hf : ∃ g, f = .func (.func g) #[] #[]) : Calls Try.prog 67 #[.slice none 0 0, .int .i64 0, .int .i64 0, f] w fun e w' => e = .returned (.tuple #[]) ∧ Below w.heap.size w w' := by
  obtain ⟨g, rfl⟩ := hf
  go_enter Try.func67, Try.ntmps67
  go_wp2_with fail
  go_loopw [8] (fun iv wr => iv = .int .i64 1 ∧ wr = w) (fun _ _ => 0)
  case atStart => exact ⟨rfl, rfl⟩
  case round =>
    obtain ⟨rfl, rfl⟩ := hrel
    go_wp2
    go_end0
    exact ⟨rfl, Below.refl _ _⟩
set_option maxRecDepth 100000 in
set_option maxHeartbeats 2000000 in
theorem pdq_nil (w : World) (n : Int) (f : Value) (hf : ∃ g, f = .func (.func g) #[] #[]) : Calls Try.prog 49 #[.slice none 0 0, .int .i64 0, .int .i64 0, .int .i64 n, f] w fun e w' => e = .returned (.tuple #[]) ∧ Below w.heap.size w w' := by
  have HF : Hid (∃ g, f = .func (.func g) #[] #[]) := hf
  clear hf
  go_enter Try.func49, Try.ntmps49
  go_wp2_with fail
  go_loopw [1, 2] (fun a b wr => a = .int .i64 0 ∧ b = .int .i64 0 ∧ wr = w) (fun _ _ _ => 0)
  case atStart => exact ⟨rfl, rfl, rfl⟩
  case round =>
    obtain ⟨rfl, rfl, rfl⟩ := hrel
    go_wp2_with (go_at_call 67; refine (ins_nil _ f HF.out).mono ?_; rintro e w' ⟨rfl, hb⟩; have HB : Hid (Below wr.heap.size wr w') := hb; clear hb)
    refine bodyPost_ret (results_none rfl _ _ _) rfl ?_
    exact ⟨rfl, HB.out⟩
set_option maxRecDepth 100000 in
theorem len64_zero (w : World) : Calls Try.prog 76 #[.int .u64 0] w fun e w' => e = .returned (.int .i64 0) ∧ w' = w := by
  go_enter Try.func76, Try.ntmps76
  go_wp2
  go_ret
  exact ⟨by kernel_rfl, rfl⟩
set_option maxRecDepth 100000 in
theorem len_zero (w : World) : Calls Try.prog 50 #[.int .u64 0] w fun e w' => e = .returned (.int .i64 0) ∧ w' = w := by
  go_enter Try.func50, Try.ntmps50
  go_wp2_with (go_at_call 76; refine (len64_zero _).mono ?_; rintro e w' ⟨rfl, rfl⟩)
  go_ret
  exact ⟨rfl, rfl⟩
set_option maxRecDepth 100000 in
set_option maxHeartbeats 2000000 in
theorem sort_nil (w : World) : Calls Try.prog 30 #[.slice none 0 0, .func (.func 31) #[] #[]] w fun e w' => e = .returned (.tuple #[]) ∧ Below w.heap.size w w' := by
  go_enter Try.func30, Try.ntmps30
  go_wp2_with (first | (go_at_call 50; refine (len_zero _).mono ?_; rintro e wq ⟨rfl, hwq⟩; obtain rfl : w = wq := hwq.symm) | (go_at_call 49; refine (pdq_nil _ _ _ ⟨_, rfl⟩).mono ?_; rintro e w' ⟨rfl, hb⟩; have HB : Hid (Below w.heap.size w w') := hb; clear hb))
  go_end0
  exact ⟨rfl, HB.out⟩
end Go.Proofs.Ytkehpmbnbknpfaa.Hi
