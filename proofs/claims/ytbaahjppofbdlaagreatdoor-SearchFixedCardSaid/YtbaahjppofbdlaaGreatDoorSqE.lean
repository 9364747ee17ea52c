/- search.newFinder and From where arrays or nodes are wrong. -/
import Derived.Test.YtbaahjppofbdlaaGreatDoorSeG
import Derived.Test.YtbaahjppofbdlaaGreatDoorCsrY
namespace Go.Proofs.YtbaahjppofbdlaaGreatDoor
open Go.RowKit Go.Extern

attribute [local go_sem] Oper.semAt_some

set_option maxRecDepth 100000 in
set_option maxHeartbeats 4000000 in
theorem newFinder_early (fv lv : Value) (f0 f1 f2 : Value) (hfv : fv = .agg #[f0, f1, f2]) (w : World) (E : Int × List (Int × Int)) (hC : ∀ wx, Below w.heap.size w wx → Calls Tryz.prog 47 #[fv] wx fun e w' => ∃ T x, e = .returned (.iface T x) ∧ IsTold w' E (.iface T x) ∧ Below wx.heap.size wx w') :
    Calls Tryz.prog 23 #[fv, lv] w fun e w' => ∃ T x, e = .returned (.tuple #[.pointer none, .iface T x]) ∧ IsTold w' E (.iface T x) ∧ Below w.heap.size w w' := by
  subst hfv
  have HC : Hid (∀ wx, Below w.heap.size w wx → Calls Tryz.prog 47 #[.agg #[f0, f1, f2]] wx fun e w' => ∃ T x, e = .returned (.iface T x) ∧ IsTold w' E (.iface T x) ∧ Below wx.heap.size wx w') := hC
  clear hC
  have hB0 : Below w.heap.size w (w.alloc (.cells #[f0, f1, f2] 29)) := (Below.refl _ w).alloc (Nat.le_refl _) _
  have HB0 : Hid (type_of% hB0) := hB0
  have hbx : (w.alloc (.cells #[f0, f1, f2] 29)).heap[w.heap.size]? = some (.cells #[f0, f1, f2] 29) := heap_new _ _
  obtain ⟨c0, c1, c2⟩ := box3 hbx
  have cs := lt_of_get hbx
  clear hB0 hbx
  go_enter Tryz.func23, Tryz.ntmps23
  go_wp2_with fail
  refine (HC.out _ HB0.out).mono ?_
  rintro e w1 ⟨T, x, rfl, hq, hb1⟩
  have HB1 : Hid (Below w.heap.size w w1 ∧ IsTold w1 E (.iface T x)) := ⟨btr HB0.out hb1, hq⟩
  clear hb1 hq c0 c1 c2 cs
  go_wp2
  go_ret2
  exact ⟨_, _, rfl, HB1.out.2, HB1.out.1⟩

set_option maxRecDepth 100000 in
set_option maxHeartbeats 4000000 in
theorem newFinder_node (n : Nat) (zs : List (Int × Int × Int)) (fo uo wo : Option Addr) (fc tc wc : Nat) (w : World) (hz : Fine n zs) (h : CsrIn w n zs fo uo wo fc tc wc) (no : Option Addr) (nc : Nat) (vs : List Int) (hv : HasInts w (.slice no vs.length nc) vs) (hvl : vs.length ≤ 1000000) (k0 : Nat) (v0 : Int) (hk0 : vs[k0]? = some v0) (hbad : ¬ (0 ≤ v0 ∧ v0 < (n : Int))) (hn : ∀ j v, j < k0 → vs[j]? = some v → 0 ≤ v ∧ v < (n : Int)) :
    Calls Tryz.prog 23 #[.agg #[.slice fo (n + 1) fc, .slice uo zs.length tc, .slice wo zs.length wc], .slice no vs.length nc] w fun e w' => e = .returned (.tuple #[.pointer none, .iface 53 (.int .i64 7)]) ∧ Below w.heap.size w w' := by
  obtain ⟨W0, hW0⟩ : ∃ W0, w.alloc (.cells #[.slice fo (n + 1) fc, .slice uo zs.length tc, .slice wo zs.length wc] 29) = W0 := ⟨_, rfl⟩
  have HW0 : Hid (w.alloc (.cells #[.slice fo (n + 1) fc, .slice uo zs.length tc, .slice wo zs.length wc] 29) = W0) := hW0
  have hB0 : Below w.heap.size w W0 := by rw [← hW0]; exact (Below.refl _ w).alloc (Nat.le_refl _) _
  have hbx : W0.heap[w.heap.size]? = some (.cells #[.slice fo (n + 1) fc, .slice uo zs.length tc, .slice wo zs.length wc] 29) := by rw [← hW0]; exact heap_new _ _
  have hN := hz.few
  have hkl := (List.getElem?_eq_some_iff.1 hk0).1
  have HK : Hid (∀ wx, Below W0.heap.size W0 wx → (wx.cell? ⟨w.heap.size, 0, none⟩ = some (.slice fo (n + 1) fc) ∧ wx.cell? ⟨w.heap.size, 1, none⟩ = some (.slice uo zs.length tc) ∧ wx.cell? ⟨w.heap.size, 2, none⟩ = some (.slice wo zs.length wc)) ∧ w.heap.size < wx.heap.size ∧ Below w.heap.size w wx ∧ HasInts wx (.slice no vs.length nc) vs) := fun wx hx => by
    have hg := (hx.block _ (lt_of_get hbx)).trans hbx
    have hb := hB0.trans (hx.mono hB0.size)
    exact ⟨box3 hg, lt_of_get hg, hb, hv.keep hb⟩
  have HCK : Hid (Calls Tryz.prog 47 #[.agg #[.slice fo (n + 1) fc, .slice uo zs.length tc, .slice wo zs.length wc]] W0 fun e w' => e = .returned .nilIface ∧ Below W0.heap.size W0 w') := check_good n zs fo uo wo fc tc wc W0 hz (h.keep hB0)
  have HN : Hid (type_of% hn) := hn
  have HK0 : Hid (vs[k0]? = some v0) := hk0
  have hw : IntKind.i64.wrap ((n : Int) + 1 - 1) = (n : Int) := by rw [IntKind.wrap_i64] <;> omega
  have hw2 : IntKind.i64.wrap (n : Int) = (n : Int) := by rw [IntKind.wrap_i64] <;> omega
  clear h hW0 hB0 hbx hz hv hn hk0
  go_enter Tryz.func23, Tryz.ntmps23
  go_wp2_with fail
  rw [HW0.out]
  refine HCK.out.mono ?_
  rintro e w1 ⟨rfl, hb1⟩
  have HB1 : Hid (Below W0.heap.size W0 w1) := hb1
  clear hb1
  obtain ⟨⟨c0, c1, c2⟩, cs, _, _⟩ := HK.out w1 HB1.out
  go_wp2_with fail
  clear c0 c1 c2 cs
  go_loopw [24] (fun iv wr => ∃ k : Nat, k ≤ k0 ∧ iv = .int .i64 k ∧ wr = w1) (fun iv _ => vs.length - (intOf iv).toNat)
  case atStart => exact ⟨0, Nat.zero_le _, rfl, rfl⟩
  case round =>
    obtain ⟨k, hk, rfl, rfl⟩ := hrel
    obtain ⟨_, _, hbw, hV⟩ := HK.out wr HB1.out
    have HBZ : Hid (Below w.heap.size w wr) := hbw
    clear hbw
    by_cases hlt : k < k0
    · obtain ⟨v, hv⟩ : ∃ v, vs[k]? = some v := ⟨vs[k], List.getElem?_eq_getElem (by omega)⟩
      obtain ⟨b, off, hno, hbl, q0⟩ := hV.at hv
      subst hno
      have i1 : (k : Int) < (vs.length : Int) := by omega
      have i2 : (0 : Int) ≤ (k : Int) := by omega
      obtain ⟨v1, v2⟩ := HN.out k v hlt hv
      have v3 : ¬ v < 0 := by omega
      have v4 : ¬ (n : Int) ≤ v := by omega
      clear hV hv
      go_wp2
      go_roundw
      case rel => exact ⟨k + 1, by omega, by go_num, trivial⟩
      case measure => simp [intOf]; omega
    · obtain rfl : k = k0 := by omega
      obtain ⟨b, off, hno, hbl, q0⟩ := hV.at HK0.out
      subst hno
      have i1 : (k : Int) < (vs.length : Int) := by omega
      have i2 : (0 : Int) ≤ (k : Int) := by omega
      clear hV hlt
      by_cases v3 : v0 < 0
      · go_wp2
        go_ret2
        exact ⟨rfl, HBZ.out⟩
      · have v4 : (n : Int) ≤ v0 := by omega
        go_wp2
        go_ret2
        exact ⟨rfl, HBZ.out⟩
end Go.Proofs.YtbaahjppofbdlaaGreatDoor
