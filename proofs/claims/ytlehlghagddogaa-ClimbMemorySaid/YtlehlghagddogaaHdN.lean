/- viaductref10.number: the number of a child in what is turned about. -/
import Derived.Test.YtlehlghagddogaaHrU
import Derived.Test.YtlehlghagddogaaHtA
namespace Go.Proofs.Ytlehlghagddogaa.Hi
open Go.RowKit Go.Extern Go.Shelf

attribute [local go_sem] Oper.semAt_some

def numT (p q i : Nat) : Nat := if i = 4294967295 then i else if i < p then q + i else i - p
set_option maxRecDepth 100000 in
set_option maxHeartbeats 4000000 in
theorem number_calls (v : HV) (h : Hr) (i : Nat) (w : World) (hi : i < 4294967296) (hL : h.up.length + h.dn.length ≤ 1048576) :
    Calls Try.prog 51 #[hvl v h, .int .u32 (i : Int)] w fun e w' => e = .returned (.int .u32 (numT h.up.length h.dn.length i : Int)) ∧ Below w.heap.size w w' := by
  obtain ⟨z, hz⟩ : ∃ z, w.heap.size = z := ⟨_, rfl⟩
  obtain ⟨W0, hW0⟩ : ∃ W0, w.alloc (.cells (cellsH v h) 25) = W0 := ⟨_, rfl⟩
  have h0 : W0.heap[z]? = some (.cells (cellsH v h) 25) := by rw [← hW0, ← hz]; exact heap_newW _ _
  have HW0 : Hid (w.alloc (.cells (cellsH v h) 25) = W0) := hW0
  have HB0 : Hid (Below w.heap.size w W0) := by show Below _ _ _; rw [← hW0]; exact (Below.refl _ _).alloc (Nat.le_refl _) _
  obtain ⟨c0, c1, c2, c3, c4⟩ := five_cells h0
  obtain ⟨p, hp⟩ : ∃ p, h.up.length = p := ⟨_, rfl⟩
  obtain ⟨q, hq⟩ : ∃ q, h.dn.length = q := ⟨_, rfl⟩
  obtain ⟨r, hr⟩ : ∃ r, numT p q i = r := ⟨_, rfl⟩
  have HR : Hid (numT p q i = r) := hr
  clear hW0 h0
  unfold cellsH at HW0
  unfold hvl
  rw [hp, hq] at hL ⊢
  rw [hp, hq] at HW0
  rw [hp] at c2
  rw [hq] at c4
  rw [hr]
  clear hp hq hr
  by_cases g1 : i = 4294967295
  · subst g1
    have HE : Hid (r = 4294967295) := by show _ = _; rw [← HR.out]; rfl
    go_enter Try.func51, Try.ntmps51
    go_wp2_with fail
    rw [HW0.out]
    go_wp2
    go_ret
    exact ⟨by rw [HE.out]; rfl, HB0.out⟩
  have a1 : ((i : Int) == 4294967295) = false := by simp; omega
  have a2 : (i == 4294967295) = false := by simpa using g1
  have a3 : IntKind.i64.wrap (i : Int) = (i : Int) := by rw [IntKind.wrap_i64]; omega
  by_cases g2 : i < p
  · have b1 : decide ((i : Int) < (p : Int)) = true := by simp; omega
    have b2 : decide (i < p) = true := by simpa using g2
    have b3 : IntKind.u32.wrap (q : Int) = (q : Int) := by rw [IntKind.wrap_u32]; omega
    have b4 : IntKind.u32.wrap ((q : Int) + (i : Int)) = (q : Int) + (i : Int) := by rw [IntKind.wrap_u32]; omega
    have HE : Hid (r = q + i) := by show _ = _; rw [← HR.out]; unfold numT; rw [if_neg g1, if_pos g2]
    clear g1 g2
    go_enter Try.func51, Try.ntmps51
    go_upto_region 1 with fail
    rw [HW0.out]
    go_wp2
    go_ret
    exact ⟨by rw [HE.out]; simp, HB0.out⟩
  · have b1 : decide ((i : Int) < (p : Int)) = false := by simp; omega
    have b2 : decide (i < p) = false := by simpa using g2
    have b3 : IntKind.u32.wrap (p : Int) = (p : Int) := by rw [IntKind.wrap_u32]; omega
    have b4 : IntKind.u32.wrap ((i : Int) - (p : Int)) = (r : Int) := by rw [← HR.out]; unfold numT; rw [if_neg g1, if_neg g2, IntKind.wrap_u32] <;> omega
    clear g1 g2
    go_enter Try.func51, Try.ntmps51
    go_upto_region 1 with fail
    rw [HW0.out]
    go_wp2
    go_ret
    exact ⟨by simp, HB0.out⟩
end Go.Proofs.Ytlehlghagddogaa.Hi
