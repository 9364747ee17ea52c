/- walk.checkList at right arrays and a list of their nodes; walk.Length of a walk. -/
import Derived.Test.YtdfjmfgbdnpkbaaDoorWkF
import Derived.Test.YtdfjmfgbdnpkbaaDoorWkE
import Derived.Deep.RegionHeld3
namespace Go.Proofs.YtdfjmfgbdnpkbaaDoor
open Go.RowKit Go.Extern

attribute [local go_sem] Oper.semAt_some

set_option maxRecDepth 100000 in
set_option maxHeartbeats 4000000 in
theorem checkList_good (n : Nat) (zs : List (Int × Int × Int)) (fo uo wo : Option Addr) (fc tc wc : Nat) (w : World) (hz : Fine n zs) (h : CsrIn w n zs fo uo wo fc tc wc) (no : Option Addr) (nc : Nat) (vs : List Int) (hv : HasInts w (.slice no vs.length nc) vs) (hvl : vs.length ≤ 1000000) (h0 : vs ≠ []) (hn : ∀ v ∈ vs, 0 ≤ v ∧ v < (n : Int)) :
    Calls Tryd.prog 27 #[.agg #[.slice fo (n + 1) fc, .slice uo zs.length tc, .slice wo zs.length wc], .slice no vs.length nc] w fun e w' => e = .returned .nilIface ∧ Below w.heap.size w w' := by
  obtain ⟨W0, hW0⟩ : ∃ W0, w.alloc (.cells #[.slice fo (n + 1) fc, .slice uo zs.length tc, .slice wo zs.length wc] 32) = W0 := ⟨_, rfl⟩
  have HW0 : Hid (w.alloc (.cells #[.slice fo (n + 1) fc, .slice uo zs.length tc, .slice wo zs.length wc] 32) = W0) := hW0
  have hB0 : Below w.heap.size w W0 := by rw [← hW0]; exact (Below.refl _ w).alloc (Nat.le_refl _) _
  have hbx : W0.heap[w.heap.size]? = some (.cells #[.slice fo (n + 1) fc, .slice uo zs.length tc, .slice wo zs.length wc] 32) := by rw [← hW0]; exact heap_new _ _
  have hN := hz.few
  have hp : ((vs.length : Int) == 0) = false := by
    have := List.length_pos_iff.2 h0
    simp
    exact h0
  have HK : Hid (∀ wx, Below W0.heap.size W0 wx → (wx.cell? ⟨w.heap.size, 0, none⟩ = some (.slice fo (n + 1) fc) ∧ wx.cell? ⟨w.heap.size, 1, none⟩ = some (.slice uo zs.length tc) ∧ wx.cell? ⟨w.heap.size, 2, none⟩ = some (.slice wo zs.length wc)) ∧ w.heap.size < wx.heap.size ∧ Below w.heap.size w wx ∧ HasInts wx (.slice no vs.length nc) vs) := fun wx hx => by
    have hg := (hx.block _ (lt_of_get hbx)).trans hbx
    have hb := hB0.trans (hx.mono hB0.size)
    exact ⟨box3 hg, lt_of_get hg, hb, hv.keep hb⟩
  have HCK : Hid (Calls Tryd.prog 41 #[.agg #[.slice fo (n + 1) fc, .slice uo zs.length tc, .slice wo zs.length wc]] W0 fun e w' => e = .returned .nilIface ∧ Below W0.heap.size W0 w') := check_good n zs fo uo wo fc tc wc W0 hz (h.keep hB0)
  have HN : Hid (type_of% hn) := hn
  have hw : IntKind.i64.wrap ((n : Int) + 1 - 1) = (n : Int) := by rw [IntKind.wrap_i64] <;> omega
  clear h hW0 hB0 hbx hz hv hn h0
  go_enter Tryd.func27, Tryd.ntmps27
  go_wp2_with fail
  rw [HW0.out]
  refine HCK.out.mono ?_
  rintro e w1 ⟨rfl, hb1⟩
  have HB1 : Hid (Below W0.heap.size W0 w1) := hb1
  clear hb1
  go_wp2_with fail
  go_loopw [19] (fun iv wr => ∃ k : Nat, k ≤ vs.length ∧ iv = .int .i64 k ∧ wr = w1) (fun iv _ => vs.length - (intOf iv).toNat)
  case atStart => exact ⟨0, Nat.zero_le _, rfl, rfl⟩
  case round =>
    obtain ⟨k, hk, rfl, rfl⟩ := hrel
    obtain ⟨⟨c0, c1, c2⟩, cs, hbw, hV⟩ := HK.out wr HB1.out
    have HBZ : Hid (Below w.heap.size w wr) := hbw
    clear hbw
    by_cases hlt : k < vs.length
    · obtain ⟨v, hv⟩ : ∃ v, vs[k]? = some v := ⟨vs[k], List.getElem?_eq_getElem hlt⟩
      obtain ⟨b, off, hno, hbl, q0⟩ := hV.at hv
      subst hno
      have i1 : (k : Int) < (vs.length : Int) := by omega
      have i2 : (0 : Int) ≤ (k : Int) := by omega
      obtain ⟨v1, v2⟩ := HN.out v (List.mem_of_getElem? hv)
      have v3 : ¬ v < 0 := by omega
      have v4 : ¬ (n : Int) ≤ v := by omega
      clear hV hv
      go_wp2
      go_roundw
      case rel => exact ⟨k + 1, by omega, by go_num, trivial⟩
      case measure => simp [intOf]; omega
    · go_wp2
      go_ret
      exact ⟨rfl, HBZ.out⟩
end Go.Proofs.YtdfjmfgbdnpkbaaDoor
