/- hier.Ranks. -/
import Derived.Test.YtodilocmfdeehaaGreatDoorHrJ
import Derived.Test.YtodilocmfdeehaaGreatDoorInts
import Derived.Deep.OwnRows
namespace Go.Proofs.YtodilocmfdeehaaGreatDoor.Hi
open Go.RowKit Go.Extern

attribute [local go_sem] Oper.semAt_some

/-- where the list names j last ahead of place k; nought otherwise. -/
def rkAt (N : List Nat) : Nat → Nat → Nat
  | 0, _ => 0
  | k + 1, j => if nth N k = j then k else rkAt N k j
theorem infoIn : (Tryz.prog.info? 3).map (fun i => (i.zero, i.size, i.bytes)) = some (some (.int .i64 0), 1, 8) := by kernel_rfl
def rkM (N : List Nat) : List Nat := (List.range N.length).map (rkAt N N.length)
structure RowI (w : World) (S n : Nat) (f : Nat → Nat) : Prop where
  lt : S < w.heap.size
  cell : ∀ j, j < n → w.cell? ⟨S, j, none⟩ = some (.int .i64 (f j : Int))
  free : ∀ j, w.frozen? ⟨S, j, none⟩ = false
theorem RowI.set {w : World} {S n k : Nat} {N : List Nat} (h : RowI w S n (rkAt N k)) {x : Nat} (hx : x < n) (e : nth N k = x) : RowI (w.setCell ⟨S, x, none⟩ (.int .i64 (k : Int))) S n (rkAt N (k + 1)) := by
  refine ⟨by simpa [World.setCell] using h.lt, fun j hj => ?_, fun j => by rw [World.frozen?_setCell]; exact h.free j⟩
  by_cases e2 : j = x
  · subst e2
    rw [World.cell?_setCell_same _ _ _ (h.cell j hj)]
    simp [rkAt, e]
  · rw [World.cell?_setCell_other _ _ _ _ (by intro h; simp only [Addr.mk.injEq] at h; omega), h.cell j hj]
    rw [rkAt, if_neg (by rw [e]; exact fun h => e2 h.symm)]
theorem rowI_new (w : World) (n : Nat) (N : List Nat) : RowI (w.alloc (.cells (madeCells #[.int .i64 0] n) 3)) w.heap.size n (rkAt N 0) := by
  have hh := heap_newW w (.cells (madeCells #[.int .i64 0] n) 3)
  have hlt := lt_of_get hh
  generalize w.alloc (.cells (madeCells #[.int .i64 0] n) 3) = W at hh hlt
  refine ⟨hlt, fun j hj => ?_, fun j => ?_⟩
  · have e : (madeCells #[.int .i64 0] n)[j]? = some (.int .i64 0) := by simp [madeCells, hj, Nat.mod_one]
    simp [World.cell?, hh, e, rkAt]
  · simp only [World.frozen?, hh]
    simp
theorem ferr_all {F : Nat → Int} {p : Int} : ∀ {m k : Nat}, ferr p F k m = (0, []) → ∀ j, k ≤ j → j < k + m → F j = 0
  | 0, k, _, j, h1, h2 => by omega
  | m + 1, k, h, j, h1, h2 => by
    rw [ferr] at h
    split at h
    · rename_i h0
      rcases Nat.lt_or_eq_of_le h1 with h3 | h3
      · exact ferr_all h j (by omega) (by omega)
      · subst h3; first | exact h0 | (simpa using h0)
    · rename_i h0
      first | (exfalso; simp at h) | (exfalso; injection h with h3 h4; exact h0 h3) | (exfalso; simp at h; omega)
theorem cn_ok {N : List Nat} (h : cn N = (0, [])) {k : Nat} (hk : k < N.length) : nth N k < N.length ∧ nth N k ∉ N.take k := by
  have := ferr_all h k (Nat.zero_le _) (by omega)
  unfold cnF at this
  split at this
  · exact absurd this (by decide)
  · rename_i h0
    simp only [not_or] at h0
    exact ⟨by omega, h0.2⟩
theorem nth_mem_take {N : List Nat} {j k : Nat} (hj : j < k) (hk : k ≤ N.length) : nth N j ∈ N.take k := by
  have : (N.take k)[j]? = some (nth N j) := by rw [List.getElem?_take_of_lt hj, nth_get (by omega)]
  exact List.mem_of_getElem? this
theorem rkAt_of {N : List Nat} (h : cn N = (0, [])) : ∀ m, m ≤ N.length → ∀ k, k < m → rkAt N m (nth N k) = k
  | 0, _, k, hk => by omega
  | m + 1, hm, k, hk => by
    rw [rkAt]
    split
    · rename_i e
      rcases Nat.lt_or_eq_of_le (Nat.le_of_lt_succ hk) with h1 | h1
      · exact absurd (e ▸ nth_mem_take h1 (by omega)) (cn_ok h (k := m) (by omega)).2
      · exact h1.symm
    · rename_i e
      exact rkAt_of h m (by omega) k (by
        rcases Nat.lt_or_eq_of_le (Nat.le_of_lt_succ hk) with h1 | h1
        · exact h1
        · subst h1; exact absurd rfl e)
theorem rkM_get {N : List Nat} {j : Nat} (hj : j < N.length) : (rkM N)[j]? = some (rkAt N N.length j) := by simp [rkM, hj]
theorem rkM_len (N : List Nat) : (rkM N).length = N.length := by simp [rkM]
/-- ranks and nodes undo one another. -/
theorem rkM_undo {N : List Nat} (h : cn N = (0, [])) {k : Nat} (hk : k < N.length) : (rkM N)[nth N k]? = some k := by
  rw [rkM_get (cn_ok h hk).1, rkAt_of h _ (Nat.le_refl _) k hk]
def intsL (l : List Nat) : List Int := l.map fun (n : Nat) => (n : Int)

set_option maxRecDepth 100000 in
set_option maxHeartbeats 4000000 in
theorem ranks_calls (v : HV) (h : Hr) (w : World) (hH : HasH w v h) (hb1 : h.up.length ≤ 1152921504606846976) (hb2 : h.dn.length ≤ 1152921504606846976) (hb3 : h.node.length ≤ 1152921504606846976) :
    Calls Tryz.prog 110 #[hvl v h] w fun e w' => ∃ lo k c u L, e = .returned (.tuple #[.slice lo k c, u]) ∧ Below w.heap.size w w' ∧ HasInts w' (.slice lo k c) L ∧ (∀ a, lo = some a → w.heap.size ≤ a.block) ∧
      ((chk h = (0, []) ∧ L = intsL (rkM h.node) ∧ u = .nilIface) ∨ (chk h ≠ (0, []) ∧ L = [] ∧ IsTold w' (chk h) u)) := by
  obtain ⟨z, hz⟩ : ∃ z, w.heap.size = z := ⟨_, rfl⟩
  have HZ : Hid (w.heap.size = z) := hz
  have HH : Hid (HasH w v h) := hH
  obtain ⟨W0, hW0⟩ : ∃ W0, w.alloc (.cells (cellsH v h) 25) = W0 := ⟨_, rfl⟩
  have hE0 : W0.heap[z]? = some (.cells (cellsH v h) 25) ∧ Below z w W0 := by
    rw [← hW0, ← hz]
    exact ⟨heap_newW _ _, (Below.refl _ _).alloc (Nat.le_refl _) _⟩
  have hs0 : W0.heap.size = z + 1 := by rw [← hW0]; simp [hz]
  have HW0 : Hid (w.alloc (.cells (cellsH v h) 25) = W0) := hW0
  have HE0 : Hid (W0.heap[z]? = some (.cells (cellsH v h) 25) ∧ Below z w W0) := hE0
  have HCK : Hid (Calls Tryz.prog 31 #[hvl v h] W0 fun e w' => ∃ u, e = .returned u ∧ IsTold w' (chk h) u ∧ Below W0.heap.size W0 w') := check_calls v h W0 (hH.keep (by rw [hz]; exact hE0.2)) hb1 hb2 hb3
  obtain ⟨c0, c1, c2, c3, c4⟩ := five_cells hE0.1
  clear hW0 hE0 hH
  unfold hvl at HCK ⊢
  unfold cellsH at HW0
  go_enter Tryz.func110, Tryz.ntmps110
  go_upto_region 1 with fail
  rw [HW0.out]
  by_cases hck : chk h = (0, [])
  · obtain ⟨k1, k2, k3, k4, k5, k6, k7, k8⟩ := chk_ok hck
    have hmk := run_make_row' (P := Tryz.prog) 28 3 (.int .i64 0) 8 Tryz.underlying28 infoIn rfl .i64 .i64 h.node.length (by omega) (by omega)
    have HCN : Hid (cn h.node = (0, [])) := k7
    have HC : Hid (chk h = (0, [])) := hck
    rw [hck] at HCK
    clear hck k2 k3 k4 k5 k6 k7 k8
    go_wp2_with (go_at_call 31; refine HCK.out.mono ?_; rintro e w1 ⟨u, rfl, htu, hbu⟩; have hu0 := isTold_nil htu; subst hu0; have HE1 : Hid (w1.heap[z]? = some (.cells (cellsH v h) 25) ∧ Below z w w1 ∧ z < w1.heap.size) := ⟨(hbu.block _ (by omega)).trans HE0.out.1, HE0.out.2.trans (hbu.mono (by omega)), by have := hbu.size; omega⟩; obtain ⟨k0, k1, k2, k3, k4⟩ := five_cells HE1.out.1; have hz1 : z < w1.heap.size := HE1.out.2.2; clear htu hbu)
    obtain ⟨y, hy⟩ : ∃ y, w1.heap.size = y := ⟨_, rfl⟩
    obtain ⟨W2, hW2⟩ : ∃ W2, w1.alloc (.cells (madeCells #[.int .i64 0] h.node.length) 3) = W2 := ⟨_, rfl⟩
    have H0 : Hid (RowI W2 y h.node.length (rkAt h.node 0) ∧ Below z w W2) := by rw [← hW2, ← hy]; exact ⟨rowI_new w1 _ _, HE1.out.2.1.alloc (Nat.le_of_lt hz1) _⟩
    have hzy : z ≤ y := by omega
    have HL : Hid (h.node.length ≤ 65536) := by assumption
    rw [hW2, hy]
    clear hW2 hy k0 k1 k2 k3 k4 hmk c0 c1 c2 c3 c4 hz1
    generalize hn : h.node.length = n at *
    go_loopw [20] (fun iv wr => ∃ k : Nat, k ≤ n ∧ iv = .int .i64 k ∧ Hid (RowI wr y n (rkAt h.node k)) ∧ Hid (Below z w wr)) (fun iv _ => n - (intOf iv).toNat)
    case atStart => exact ⟨0, by omega, rfl, H0.out.1, H0.out.2⟩
    case round =>
      obtain ⟨k, hk, rfl, HR, HB⟩ := hrel
      rcases Nat.lt_or_eq_of_le hk with h1 | h1
      · have hN := HH.out.node.keep (by rw [HZ.out]; exact HB.out)
        have HX : Hid (nth h.node k < n) := by have := (cn_ok HCN.out (k := k) (by omega)).1; show _ < _; omega
        rw [hn] at hN
        obtain ⟨b, off, e1, hbl, hc⟩ := hN.cells (by omega)
        rw [e1]
        have ck := hc k h1
        have cs := HR.out.cell (nth h.node k) HX.out
        have fs := HR.out.free (nth h.node k)
        obtain ⟨x, hx⟩ : ∃ x, nth h.node k = x := ⟨_, rfl⟩
        have HN2 : Hid (RowI (wr.setCell ⟨y, x, none⟩ (.int .i64 (k : Int))) y n (rkAt h.node (k + 1)) ∧ Below z w (wr.setCell ⟨y, x, none⟩ (.int .i64 (k : Int)))) := ⟨HR.out.set (by rw [← hx]; exact HX.out) hx, HB.out.setCell hzy _⟩
        rw [hx] at ck cs fs HX
        have hxi : (x : Int) < (n : Int) := by have := HX.out; omega
        have hxi0 : (0 : Int) ≤ (x : Int) := by omega
        have hki : (k : Int) < (n : Int) := by omega
        have hw9 : IntKind.i64.wrap (x : Int) = (x : Int) := by rw [IntKind.wrap_i64]; omega
        clear hc hN hx
        go_wp2
        go_roundw
        case rel => exact ⟨k + 1, by omega, by simp, HN2.out.1, HN2.out.2⟩
        case measure => simp [intOf]; omega
      · subst h1
        go_wp2
        go_ret2
        refine ⟨_, _, _, _, _, rfl, ?_, ?_, ?_, Or.inl ⟨HC.out, rfl, rfl⟩⟩
        · rw [HZ.out]; exact HB.out
        · refine ⟨_, _, by rw [show (intsL (rkM h.node)).length = k by unfold intsL; rw [List.length_map, rkM_len, hn]], fun j a hj => ?_⟩
          have hjl : j < k := by have := (List.getElem?_eq_some_iff.1 hj).1; unfold intsL at this; rw [List.length_map, rkM_len, hn] at this; exact this
          refine ⟨y, 0, rfl, HR.out.lt, ?_⟩
          unfold intsL at hj
          rw [List.getElem?_map, rkM_get (by omega), Option.map_some] at hj
          injection hj with hj
          rw [Nat.zero_add, HR.out.cell j hjl, ← hj, hn]
        · intro a e; cases e; rw [HZ.out]; exact hzy
  · have HC : Hid (chk h ≠ (0, [])) := hck
    go_wp2_with (go_at_call 31; refine HCK.out.mono ?_; rintro e w1 ⟨u, rfl, htu, hbu⟩; obtain ⟨tt, xx, hu1, hu2⟩ := isTold_some htu HC.out; subst hu1; have HT : Hid (IsTold w1 (chk h) (.iface tt xx) ∧ Below z w w1) := ⟨htu, HE0.out.2.trans (hbu.mono (by omega))⟩; clear htu hbu hu2)
    go_ret2
    exact ⟨_, _, _, _, [], rfl, by rw [HZ.out]; exact HT.out.2, ⟨none, 0, rfl, fun j a hj => by simp at hj⟩, fun a e => (by cases e), Or.inr ⟨HC.out, rfl, HT.out.1⟩⟩
end Go.Proofs.YtodilocmfdeehaaGreatDoor.Hi
