/- hier.Ranks. -/
import Derived.Test.YtamedcnjanichabGreatDoorHrJ
import Derived.Test.YtamedcnjanichabGreatDoorInts
import Derived.Deep.OwnRows
namespace Go.Proofs.YtamedcnjanichabGreatDoor.Hi
open Go.RowKit Go.Extern

attribute [local go_sem] Oper.semAt_some

/-- where the list names j last ahead of place k; nought otherwise. -/
def rkAt (N : List Nat) : Nat → Nat → Nat
  | 0, _ => 0
  | k + 1, j => if nth N k = j then k else rkAt N k j
theorem infoIn : (Tryz.prog.info? 3).map (fun i => (i.zero, i.size, i.bytes)) = some (some (.int .i64 0), 1, 8) := by kernel_rfl
def rkM (N : List Nat) : List Nat := (List.range N.length).map (rkAt N N.length)
structure RowI (w : World) (S n : Nat) (f : Nat → Nat) : Prop where
  lt : S < w.heap.size
  cell : ∀ j, j < n → w.cell? ⟨S, j, none⟩ = some (.int .i64 (f j : Int))
  free : ∀ j, w.frozen? ⟨S, j, none⟩ = false
theorem RowI.set {w : World} {S n k : Nat} {N : List Nat} (h : RowI w S n (rkAt N k)) {x : Nat} (hx : x < n) (e : nth N k = x) : RowI (w.setCell ⟨S, x, none⟩ (.int .i64 (k : Int))) S n (rkAt N (k + 1)) := by
  refine ⟨by simpa [World.setCell] using h.lt, fun j hj => ?_, fun j => by rw [World.frozen?_setCell]; exact h.free j⟩
  by_cases e2 : j = x
  · subst e2
    rw [World.cell?_setCell_same _ _ _ (h.cell j hj)]
    simp [rkAt, e]
  · rw [World.cell?_setCell_other _ _ _ _ (by intro h; simp only [Addr.mk.injEq] at h; omega), h.cell j hj]
    rw [rkAt, if_neg (by rw [e]; exact fun h => e2 h.symm)]
theorem rowI_new (w : World) (n : Nat) (N : List Nat) : RowI (w.alloc (.cells (madeCells #[.int .i64 0] n) 3)) w.heap.size n (rkAt N 0) := by
  have hh := heap_newW w (.cells (madeCells #[.int .i64 0] n) 3)
  have hlt := lt_of_get hh
  generalize w.alloc (.cells (madeCells #[.int .i64 0] n) 3) = W at hh hlt
  refine ⟨hlt, fun j hj => ?_, fun j => ?_⟩
  · have e : (madeCells #[.int .i64 0] n)[j]? = some (.int .i64 0) := by simp [madeCells, hj, Nat.mod_one]
    simp [World.cell?, hh, e, rkAt]
  · simp only [World.frozen?, hh]
    simp
theorem ferr_all {F : Nat → Int} {p : Int} : ∀ {m k : Nat}, ferr p F k m = (0, []) → ∀ j, k ≤ j → j < k + m → F j = 0
  | 0, k, _, j, h1, h2 => by omega
  | m + 1, k, h, j, h1, h2 => by
    rw [ferr] at h
    split at h
    · rename_i h0
      rcases Nat.lt_or_eq_of_le h1 with h3 | h3
      · exact ferr_all h j (by omega) (by omega)
      · subst h3; first | exact h0 | (simpa using h0)
    · rename_i h0
      first | (exfalso; simp at h) | (exfalso; injection h with h3 h4; exact h0 h3) | (exfalso; simp at h; omega)
theorem cn_ok {N : List Nat} (h : cn N = (0, [])) {k : Nat} (hk : k < N.length) : nth N k < N.length ∧ nth N k ∉ N.take k := by
  have := ferr_all h k (Nat.zero_le _) (by omega)
  unfold cnF at this
  split at this
  · exact absurd this (by decide)
  · rename_i h0
    simp only [not_or] at h0
    exact ⟨by omega, h0.2⟩
theorem nth_mem_take {N : List Nat} {j k : Nat} (hj : j < k) (hk : k ≤ N.length) : nth N j ∈ N.take k := by
  have : (N.take k)[j]? = some (nth N j) := by rw [List.getElem?_take_of_lt hj, nth_get (by omega)]
  exact List.mem_of_getElem? this
theorem rkAt_of {N : List Nat} (h : cn N = (0, [])) : ∀ m, m ≤ N.length → ∀ k, k < m → rkAt N m (nth N k) = k
  | 0, _, k, hk => by omega
  | m + 1, hm, k, hk => by
    rw [rkAt]
    split
    · rename_i e
      rcases Nat.lt_or_eq_of_le (Nat.le_of_lt_succ hk) with h1 | h1
      · exact absurd (e ▸ nth_mem_take h1 (by omega)) (cn_ok h (k := m) (by omega)).2
      · exact h1.symm
    · rename_i e
      exact rkAt_of h m (by omega) k (by
        rcases Nat.lt_or_eq_of_le (Nat.le_of_lt_succ hk) with h1 | h1
        · exact h1
        · subst h1; exact absurd rfl e)
theorem rkM_get {N : List Nat} {j : Nat} (hj : j < N.length) : (rkM N)[j]? = some (rkAt N N.length j) := by simp [rkM, hj]
theorem rkM_len (N : List Nat) : (rkM N).length = N.length := by simp [rkM]
/-- ranks and nodes undo one another. -/
theorem rkM_undo {N : List Nat} (h : cn N = (0, [])) {k : Nat} (hk : k < N.length) : (rkM N)[nth N k]? = some k := by
  rw [rkM_get (cn_ok h hk).1, rkAt_of h _ (Nat.le_refl _) k hk]
def intsL (l : List Nat) : List Int := l.map fun (n : Nat) => (n : Int)

end Go.Proofs.YtamedcnjanichabGreatDoor.Hi
