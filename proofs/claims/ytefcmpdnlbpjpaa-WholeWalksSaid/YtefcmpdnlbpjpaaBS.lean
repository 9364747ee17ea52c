/- slices.BinarySearch of a list of whole numbers, as the library proves it over any program, laid at this translation's numbers. -/
import Derived.Shelf.Slices.SearchI
import Derived.Test.YtefcmpdnlbpjpaaInts
namespace Go.Proofs
open Go.Shelf
def Try.bs_ren : Go.Shelf.Ren := ⟨fun | 25 => 42 | 31 => 64 | 32 => 65 | 37 => 60 | n => n, fun | 22 => 25 | 40 => 123 | n => n, fun | n => n⟩
theorem Try.bs : Go.Proofs.Lays2.n25 Try.prog Try.bs_ren := {
  mixed := by kernel_rfl
  f25 := Try.func42.trans (congrArg some (by kernel_rfl))
  f31 := Try.func64.trans (congrArg some (by kernel_rfl))
  f32 := Try.func65.trans (congrArg some (by kernel_rfl))
  f37 := Try.func60.trans (congrArg some (by kernel_rfl))
  t0 := Try.underlying0
  a0 := Try.isAgg0
  z0 := Try.sizeOf0
  v0 := Try.zeroValue0
  t3 := Try.underlying3
  a3 := Try.isAgg3
  z3 := Try.sizeOf3
  v3 := Try.zeroValue3
  t4 := Try.underlying4
  a4 := Try.isAgg4
  z4 := Try.sizeOf4
  v4 := Try.zeroValue4
  t22 := Try.underlying25
  a22 := Try.isAgg25
  z22 := Try.sizeOf25
  v22 := Try.zeroValue25
  t40 := Try.underlying123
  a40 := Try.isAgg123
  z40 := Try.sizeOf123
  v40 := Try.zeroValue123 }
namespace Ytefcmpdnlbpjpaa
open Go.RowKit Go.Extern
/-- the search in a row that rises: how many numbers are less, and is it there? -/
theorem search_calls (b off n c : Nat) (l : List Int) (x : Int) (w : World) (hn : l.length = n) (hs : l.Pairwise (· ≤ ·)) (hbig : n < 4611686018427387904) (hc : ∀ j a, l[j]? = some a → w.cell? ⟨b, off + j, none⟩ = some (.int .i64 a)) :
    Calls Try.prog 42 #[.slice (some ⟨b, off, none⟩) n c, .int .i64 x] w fun e w' => e = .returned (.tuple #[.int .i64 (l.countP (· < x) : Nat), .bool (l.contains x)]) ∧ Below w.heap.size w w' := by
  have h := Any.slices_BinarySearch_int Try.bs b off n c l x w (by omega) hbig (fun j hj => by rw [List.getD_eq_getElem?_getD, List.getElem?_eq_getElem hj]; exact hc j _ (List.getElem?_eq_getElem hj)) (by rw [List.take_of_length_le (by omega)]; exact hs)
  rw [List.take_of_length_le (by omega)] at h
  refine h.mono ?_
  rintro e w' ⟨he, q, rfl⟩
  exact ⟨he, ⟨rfl, rfl, rfl, Nat.le_refl _, fun _ _ => rfl⟩⟩
end Ytefcmpdnlbpjpaa
end Go.Proofs
