/- closed facts for ImageFixed. (Printed by genike.py.) -/
import Derived.Test.YtamedcnjanichaaDoorIjX
import Derived.Test.YtamedcnjanichaaDoorHfA
import Derived.Test.YtamedcnjanichaaDoorDocCheck
import Derived.Test.YtamedcnjanichaaDoorCrX
namespace Go.Proofs.YtamedcnjanichaaDoor
open Go.RowKit Go.Extern Cr

def P0 : List Nat := [86, 68, 67, 84, 1, 0, 0, 0, 0, 0, 0, 0, 0, 0, 0, 0, 0, 0, 0, 0, 0, 0, 0, 0, 0, 0, 0, 0, 247, 54, 33, 159]
def pls : List Nat := [4, 8, 10, 11, 14, 15, 18, 19, 31, 2, 20]
def vls : List Nat := [2, 1, 1, 1, 16, 1, 17, 1, 158, 0, 1]
def wts : List Nat := [4, 32, 32, 8, 32, 12, 16, 16, 28, 2, 28]
def cds : List Nat := [12, 10, 10, 9, 10, 9, 9, 9, 13, 11, 13]
theorem imB_none : imB Hi.noneH = P0 := by kernel_rfl
theorem img_none : ImgOk P0 Hi.noneH := by
  rw [← imB_none]
  exact imB_ok (small_of_chk Hi.chkNone) (by decide)
theorem rows_fE : ∀ k, k < 11 → fE (P0.set (pls.getD k 0) (vls.getD k 0)) = (((cds.getD k 0 : Nat) : Int), [(2, ((wts.getD k 0 : Nat) : Int))])
  | 0, _ => by kernel_rfl
  | 1, _ => by kernel_rfl
  | 2, _ => by kernel_rfl
  | 3, _ => by kernel_rfl
  | 4, _ => by kernel_rfl
  | 5, _ => by kernel_rfl
  | 6, _ => by kernel_rfl
  | 7, _ => by kernel_rfl
  | 8, _ => by kernel_rfl
  | 9, _ => by kernel_rfl
  | 10, _ => by kernel_rfl
  | k + 11, h => absurd h (by omega)
theorem rows_ok : ∀ k, k < 11 → pls.getD k 0 < 32 ∧ vls.getD k 0 < 256 ∧ cds.getD k 0 ≠ 0 := by decide
theorem bts_P0 : Bts P0 := img_none.bts
theorem bts_set0 {k : Nat} (h : k < 11) : Bts (P0.set (pls.getD k 0) (vls.getD k 0)) := fun x hx => by
  rcases List.mem_or_eq_of_mem_set hx with h1 | rfl
  · exact bts_P0 x h1
  · exact (rows_ok k h).2.1
theorem fE_nil : fE [] = (10, [(2, 0)]) := by kernel_rfl
theorem fE_zero : fE (List.replicate 32 0) = (11, [(2, 0)]) := by kernel_rfl
theorem fE_more : fE (P0 ++ [0]) = (6, [(2, 32)]) := by kernel_rfl
theorem fits_P0 : fits P0 = true := img_none.fit
theorem row_at {w : World} {b k : Nat} {T : TypeId} {K : IntKind} {l : List Nat} (h : w.heap[b]? = some (.cells ((l.map fun x : Nat => Value.int K (x : Int)).toArray) T)) (hk : k < l.length) : w.cell? ⟨b, k, none⟩ = some (.int K ((l.getD k 0 : Nat) : Int)) := by
  simp only [World.cell?, h]
  rw [List.getD_eq_getElem?_getD, List.getElem?_eq_getElem hk]
  simp [hk]
theorem hasB_row {w : World} {b n : Nat} {l : List Nat} (h : w.heap[b]? = some (.cells (bv l).toArray 5)) (hn : l.length = n) (c : Nat) : HasB w (.slice (some ⟨b, 0, none⟩) n c) l := by
  subst hn
  refine ⟨_, c, rfl, fun j x hj => ⟨b, 0, rfl, w_lt_get h, ?_⟩⟩
  rw [Nat.zero_add]
  simp only [World.cell?, h]
  simp [bv, hj]
theorem make_32 (w : World) : (Instr.makeSlice 26 (.int .i64 32) (.int .i64 32)).run Tryd.prog w = .ok (.slice (some ⟨w.heap.size, 0, none⟩) 32 32) (w.alloc (.cells #[.int .u8 0, .int .u8 0, .int .u8 0, .int .u8 0, .int .u8 0, .int .u8 0, .int .u8 0, .int .u8 0, .int .u8 0, .int .u8 0, .int .u8 0, .int .u8 0, .int .u8 0, .int .u8 0, .int .u8 0, .int .u8 0, .int .u8 0, .int .u8 0, .int .u8 0, .int .u8 0, .int .u8 0, .int .u8 0, .int .u8 0, .int .u8 0, .int .u8 0, .int .u8 0, .int .u8 0, .int .u8 0, .int .u8 0, .int .u8 0, .int .u8 0, .int .u8 0] 5)) := by
  obtain ⟨i0, hi, hz0, hz1, hz2⟩ := infoB
  have h := run_make (P := Tryd.prog) w 26 5 i0 (.int .u8 0) Tryd.underlying26 hi hz0 .i64 .i64 32 32 (by omega) (by omega) (by rw [hz2]; omega) (by omega)
  have e : madeCells (Value.int .u8 0).cells (Int.toNat 32 * 1) = #[.int .u8 0, .int .u8 0, .int .u8 0, .int .u8 0, .int .u8 0, .int .u8 0, .int .u8 0, .int .u8 0, .int .u8 0, .int .u8 0, .int .u8 0, .int .u8 0, .int .u8 0, .int .u8 0, .int .u8 0, .int .u8 0, .int .u8 0, .int .u8 0, .int .u8 0, .int .u8 0, .int .u8 0, .int .u8 0, .int .u8 0, .int .u8 0, .int .u8 0, .int .u8 0, .int .u8 0, .int .u8 0, .int .u8 0, .int .u8 0, .int .u8 0, .int .u8 0] := by kernel_rfl
  rw [h, hz1, e]
  rfl
def B1 : List Nat := imB Hi.hA
theorem small_A : SmallH Hi.hA := ⟨by decide, by decide, by decide, rfl, rfl⟩
theorem img_A : ImgOk B1 Hi.hA := imB_ok small_A (by decide)
theorem len_B1 : B1.length = 128 := by kernel_rfl
theorem has_none {w : World} {r : Nat} (g0 : w.heap[r]? = some (.cells #[.int .u32 0] 42)) (g1 : w.heap[r + 1]? = some (.cells #[.int .u32 0] 42)) : Hi.HasH w ⟨none, some ⟨r, 0, none⟩, none, some ⟨r + 1, 0, none⟩, none, 0, 1, 0, 1, 0⟩ Hi.noneH :=
  ⟨Hi.ws_nil _, Hi.ws_new (xs := [0]) g0 (by decide) (Nat.le_refl _), Hi.ls_nil _, Hi.ws_new (xs := [0]) g1 (by decide) (Nat.le_refl _), Hi.ls_nil _⟩
theorem has_empty (w : World) : Hi.HasH w nilV Hi.emptyH := ⟨Hi.ws_nil _, Hi.ws_nil _, Hi.ls_nil _, Hi.ws_nil _, Hi.ls_nil _⟩
end Go.Proofs.YtamedcnjanichaaDoor
