/- slices.SortFunc with normal's closure: the row of arcs is sorted by ends, then by weight; nothing else turns. -/
import Derived.Test.YtbkclhaonbjobaaGreatShelf
import Derived.Test.YtbkclhaonbjobaaGreatCheck
namespace Go.Proofs.YtbkclhaonbjobaaGreat
open Go.RowKit Go.Extern Go.Sort Go.Shelf

/-- an arc's three cells. -/
def encA (x : Int × Int × Int) : List Value := [.int .i64 x.1, .int .i64 x.2.1, .int .i64 x.2.2]
theorem ltA (x y : Int × Int × Int) : ltOf arcI x y = decide (x.1 < y.1 ∨ x.1 = y.1 ∧ (x.2.1 < y.2.1 ∨ x.2.1 = y.2.1 ∧ x.2.2 < y.2.2)) := by
  unfold ltOf arcI endsI orI cmpI
  obtain ⟨x0, x1, x2⟩ := x
  obtain ⟨y0, y1, y2⟩ := y
  simp only
  rw [Bool.eq_iff_iff, decide_eq_true_iff, decide_eq_true_iff]
  by_cases h0 : x0 < y0 <;> by_cases h0' : y0 < x0 <;> by_cases h1 : x1 < y1 <;> by_cases h1' : y1 < x1 <;> by_cases h2 : x2 < y2 <;> by_cases h2' : y2 < x2 <;> simp [h0, h0', h1, h1', h2, h2'] <;> omega
theorem swoA : SWO (ltOf arcI) where
  irrefl x := by rw [ltA]; simp
  trans x y z h1 h2 := by rw [ltA] at *; simp at *; omega
  ntrans x y z h1 h2 := by rw [ltA] at *; simp at *; omega
theorem cmpLaysA (blk off size : Nat) (w : World) : CmpLays Tryz.prog 45 #[] encA 3 arcI blk off size w := fun m os dk _ x y => by
  refine (sortCmp_calls x y _).mono ?_
  rintro e w' ⟨rfl, q, os', rfl⟩
  exact ⟨rfl, q, os', rfl⟩

theorem sort_calls (blk cap : Nat) (d : Array (Int × Int × Int)) (w : World) (hH : HoldsK encA 3 w blk 0 d) (hblk : blk < w.heap.size) (hsz : d.size < 4611686018427387904) :
    Calls Tryz.prog 44 #[.slice (some ⟨blk, 0, none⟩) d.size cap, .func (.func 45) #[] #[]] w fun e w' => e = .returned (.tuple #[]) ∧ HoldsK encA 3 w' blk 0 (pdq (ltOf arcI) d 0 d.size (Lib.bitLen d.size) true true) ∧ Touch blk w w' := by
  have hcon := AnyQ.slices_SortFunc_eq Tryz.sortArc 3 Tryz.isAgg84 Tryz.sizeOf84 encA (fun _ => rfl) (fun x v hv => by simp [encA] at hv; rcases hv with rfl | rfl | rfl <;> rfl) arcI swoA 45 #[] blk 0 cap d w (enters_of Tryz.func45 (by kernel_rfl) rfl) (cmpLaysA blk 0 d.size w) hH hblk hsz
  refine hcon.mono ?_
  rintro e w' ⟨rfl, n, os, rfl⟩
  have hp := (pdq_sorts (ltOf arcI) swoA d 0 d.size (Lib.bitLen d.size) true true (Nat.zero_le _) (Nat.le_refl _) (Or.inl rfl)).1
  generalize pdq (ltOf arcI) d 0 d.size (Lib.bitLen d.size) true true = d' at *
  have hs : d'.size = d.size := hp.1
  refine ⟨rfl, holdsK_grow encA 3 (putRowK encA 3 (Sort.ahead w n) blk 0 d') os blk 0 d' (by simp [putRowK, Sort.ahead]; exact hblk) (holdsK_putRowK encA 3 (Sort.ahead w n) blk 0 d d' (holdsK_ahead encA 3 w n blk 0 d hH) hs), rfl, rfl, rfl, ?_, fun k hk hne => ?_⟩
  · simp [sortWorldK, putRowK, Sort.ahead]
  · unfold sortWorldK
    rw [heap_grow_old _ _ (by simp [putRowK, Sort.ahead]; exact hk)]
    simp only [putRowK, putRow, mapBlock, Sort.ahead, Array.getElem?_modify]
    rw [if_neg (fun e => hne e.symm)]
end Go.Proofs.YtbkclhaonbjobaaGreat
