/- slices.BinarySearch of a list of whole numbers, as the library proves it over any program, laid at this translation's numbers. -/
import Derived.Shelf.Slices.SearchI
import Derived.Test.YtdfjmfgbdnpkbaaDoorInts
namespace Go.Proofs
open Go.Shelf
def Tryd.bs_ren : Go.Shelf.Ren := ⟨fun | 25 => 42 | 31 => 56 | 32 => 57 | 37 => 68 | n => n, fun | 22 => 22 | 40 => 112 | n => n, fun | n => n⟩
theorem Tryd.bs : Go.Proofs.Lays2.n25 Tryd.prog Tryd.bs_ren := {
  mixed := by kernel_rfl
  f25 := Tryd.func42.trans (congrArg some (by kernel_rfl))
  f31 := Tryd.func56.trans (congrArg some (by kernel_rfl))
  f32 := Tryd.func57.trans (congrArg some (by kernel_rfl))
  f37 := Tryd.func68.trans (congrArg some (by kernel_rfl))
  t0 := Tryd.underlying0
  a0 := Tryd.isAgg0
  z0 := Tryd.sizeOf0
  v0 := Tryd.zeroValue0
  t3 := Tryd.underlying3
  a3 := Tryd.isAgg3
  z3 := Tryd.sizeOf3
  v3 := Tryd.zeroValue3
  t4 := Tryd.underlying4
  a4 := Tryd.isAgg4
  z4 := Tryd.sizeOf4
  v4 := Tryd.zeroValue4
  t22 := Tryd.underlying22
  a22 := Tryd.isAgg22
  z22 := Tryd.sizeOf22
  v22 := Tryd.zeroValue22
  t40 := Tryd.underlying112
  a40 := Tryd.isAgg112
  z40 := Tryd.sizeOf112
  v40 := Tryd.zeroValue112 }
namespace YtdfjmfgbdnpkbaaDoor
open Go.RowKit Go.Extern
/-- the search in a row that rises: how many numbers are less, and is it there? -/
theorem search_calls (b off n c : Nat) (l : List Int) (x : Int) (w : World) (hn : l.length = n) (hs : l.Pairwise (· ≤ ·)) (hbig : n < 4611686018427387904) (hc : ∀ j a, l[j]? = some a → w.cell? ⟨b, off + j, none⟩ = some (.int .i64 a)) :
    Calls Tryd.prog 42 #[.slice (some ⟨b, off, none⟩) n c, .int .i64 x] w fun e w' => e = .returned (.tuple #[.int .i64 (l.countP (· < x) : Nat), .bool (l.contains x)]) ∧ Below w.heap.size w w' := by
  have h := Any.slices_BinarySearch_int Tryd.bs b off n c l x w (by omega) hbig (fun j hj => by rw [List.getD_eq_getElem?_getD, List.getElem?_eq_getElem hj]; exact hc j _ (List.getElem?_eq_getElem hj)) (by rw [List.take_of_length_le (by omega)]; exact hs)
  rw [List.take_of_length_le (by omega)] at h
  refine h.mono ?_
  rintro e w' ⟨he, q, rfl⟩
  exact ⟨he, ⟨rfl, rfl, rfl, Nat.le_refl _, fun _ _ => rfl⟩⟩
end YtdfjmfgbdnpkbaaDoor
end Go.Proofs
