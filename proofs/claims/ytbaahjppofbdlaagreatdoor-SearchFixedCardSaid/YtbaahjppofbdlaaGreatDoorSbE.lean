/- search.Path where arrays or nodes are wrong. -/
import Derived.Test.YtbaahjppofbdlaaGreatDoorSqE
import Derived.Test.YtbaahjppofbdlaaGreatDoorSpA
namespace Go.Proofs.YtbaahjppofbdlaaGreatDoor
open Go.RowKit Go.Extern

attribute [local go_sem] Oper.semAt_some

set_option maxRecDepth 100000 in
set_option maxHeartbeats 4000000 in
theorem sPath_early (f0 f1 f2 : Value) (s t : Int) (w : World) (E : Int × List (Int × Int)) (hC : ∀ wx, Below w.heap.size w wx → Calls Tryz.prog 47 #[.agg #[f0, f1, f2]] wx fun e w' => ∃ T x, e = .returned (.iface T x) ∧ IsTold w' E (.iface T x) ∧ Below wx.heap.size wx w') :
    Calls Tryz.prog 12 #[.agg #[f0, f1, f2], .int .i64 s, .int .i64 t] w fun e w' => ∃ T x, e = .returned (.tuple #[.slice none 0 0, .iface T x]) ∧ IsTold w' E (.iface T x) ∧ Below w.heap.size w w' := by
  obtain ⟨W0, hW0⟩ : ∃ W0, (w.alloc (.cells #[f0, f1, f2] 29)).alloc (.cells #[.int .i64 s, .int .i64 t] 3) = W0 := ⟨_, rfl⟩
  have HW0 : Hid ((w.alloc (.cells #[f0, f1, f2] 29)).alloc (.cells #[.int .i64 s, .int .i64 t] 3) = W0) := hW0
  have hB0 : Below w.heap.size w W0 := by rw [← hW0]; exact ((Below.refl _ w).alloc (Nat.le_refl _) _).alloc (by simp) _
  have HNF : Hid (type_of% (newFinder_early (.agg #[f0, f1, f2]) (.slice (some ⟨w.heap.size + 1, 0, none⟩) 2 2) f0 f1 f2 rfl W0 E (fun wx hx => hC wx (btr hB0 hx)))) := newFinder_early (.agg #[f0, f1, f2]) (.slice (some ⟨w.heap.size + 1, 0, none⟩) 2 2) f0 f1 f2 rfl W0 E (fun wx hx => hC wx (btr hB0 hx))
  have HB0 : Hid (Below w.heap.size w W0) := hB0
  clear hW0 hB0 hC
  go_enter Tryz.func12, Tryz.ntmps12
  go_wp2_with fail
  rw [HW0.out]
  refine HNF.out.mono ?_
  rintro e w1 ⟨T, x, rfl, hq, hb⟩
  have H1 : Hid (IsTold w1 E (.iface T x) ∧ Below w.heap.size w w1) := ⟨hq, btr HB0.out hb⟩
  clear hq hb
  go_wp2
  go_ret2
  exact ⟨T, x, rfl, H1.out.1, H1.out.2⟩

set_option maxRecDepth 100000 in
set_option maxHeartbeats 4000000 in
theorem sPath_node (n : Nat) (zs : List (Int × Int × Int)) (fo uo wo : Option Addr) (fc tc wc : Nat) (w : World) (hz : Fine n zs) (h : CsrIn w n zs fo uo wo fc tc wc) (s t : Int) (hst : ¬ ((0 ≤ s ∧ s < (n : Int)) ∧ 0 ≤ t ∧ t < (n : Int))) :
    Calls Tryz.prog 12 #[.agg #[.slice fo (n + 1) fc, .slice uo zs.length tc, .slice wo zs.length wc], .int .i64 s, .int .i64 t] w fun e w' => e = .returned (.tuple #[.slice none 0 0, .iface 53 (.int .i64 7)]) ∧ Below w.heap.size w w' := by
  obtain ⟨W0, hW0⟩ : ∃ W0, (w.alloc (.cells #[.slice fo (n + 1) fc, .slice uo zs.length tc, .slice wo zs.length wc] 29)).alloc (.cells #[.int .i64 s, .int .i64 t] 3) = W0 := ⟨_, rfl⟩
  have HW0 : Hid ((w.alloc (.cells #[.slice fo (n + 1) fc, .slice uo zs.length tc, .slice wo zs.length wc] 29)).alloc (.cells #[.int .i64 s, .int .i64 t] 3) = W0) := hW0
  have hB0 : Below w.heap.size w W0 := by rw [← hW0]; exact ((Below.refl _ w).alloc (Nat.le_refl _) _).alloc (by simp) _
  have hI : HasInts W0 (.slice (some ⟨w.heap.size + 1, 0, none⟩) 2 2) [s, t] := by
    have := ints_two (w.alloc (.cells #[.slice fo (n + 1) fc, .slice uo zs.length tc, .slice wo zs.length wc] 29)) s t
    rw [hW0] at this
    simpa using this
  have HNF : Hid (Calls Tryz.prog 23 #[.agg #[.slice fo (n + 1) fc, .slice uo zs.length tc, .slice wo zs.length wc], .slice (some ⟨w.heap.size + 1, 0, none⟩) 2 2] W0 fun e w' => e = .returned (.tuple #[.pointer none, .iface 53 (.int .i64 7)]) ∧ Below W0.heap.size W0 w') := by
    by_cases hs : 0 ≤ s ∧ s < (n : Int)
    · exact newFinder_node n zs fo uo wo fc tc wc W0 hz (h.keep hB0) (some ⟨w.heap.size + 1, 0, none⟩) 2 [s, t] hI (by simp) 1 t rfl (fun ht => hst ⟨hs, ht⟩) (fun j v hj hv => by
        obtain rfl : j = 0 := by omega
        obtain rfl : s = v := by simpa using hv
        exact hs)
    · exact newFinder_node n zs fo uo wo fc tc wc W0 hz (h.keep hB0) (some ⟨w.heap.size + 1, 0, none⟩) 2 [s, t] hI (by simp) 0 s rfl hs (fun j v hj hv => by omega)
  have HB0 : Hid (Below w.heap.size w W0) := hB0
  clear hW0 hB0 hI h hz hst
  go_enter Tryz.func12, Tryz.ntmps12
  go_wp2_with fail
  rw [HW0.out]
  refine HNF.out.mono ?_
  rintro e w1 ⟨rfl, hb⟩
  have H1 : Hid (Below w.heap.size w w1) := btr HB0.out hb
  clear hb
  go_wp2
  go_ret2
  exact ⟨rfl, H1.out⟩
end Go.Proofs.YtbaahjppofbdlaaGreatDoor
