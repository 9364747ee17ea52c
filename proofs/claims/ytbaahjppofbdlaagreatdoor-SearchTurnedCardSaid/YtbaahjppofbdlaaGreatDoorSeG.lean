/- search.From at right arrays and a node of theirs. -/
import Derived.Test.YtbaahjppofbdlaaGreatDoorSeD
namespace Go.Proofs.YtbaahjppofbdlaaGreatDoor
open Go.RowKit Go.Extern

attribute [local go_sem] Oper.semAt_some

theorem ints_one (w : World) (x : Int) : HasInts (w.alloc (.cells #[.int .i64 x] 3)) (.slice (some ⟨w.heap.size, 0, none⟩) 1 1) [x] := by
  have h := heap_new w (.cells #[.int .i64 x] 3)
  have hl := lt_of_get h
  generalize w.alloc (.cells #[.int .i64 x] 3) = W at *
  refine ⟨_, _, rfl, fun j a hj => ?_⟩
  rcases j with _ | j
  · cases hj
    exact ⟨_, _, rfl, hl, by simp [World.cell?, h]⟩
  · simp at hj

set_option maxRecDepth 100000 in
set_option maxHeartbeats 4000000 in
theorem from_new (n : Nat) (zs : List (Int × Int × Int)) (fo uo wo : Option Addr) (fc tc wc : Nat) (w : World) (hz : Fine n zs) (h : CsrIn w n zs fo uo wo fc tc wc) (s : Nat) (hs : s < n) :
    Calls Tryz.prog 9 #[.agg #[.slice fo (n + 1) fc, .slice uo zs.length tc, .slice wo zs.length wc], .int .i64 s] w fun e w' => ∃ db D, e = .returned (.tuple #[.slice (some ⟨db, 0, none⟩) n n, .nilIface]) ∧ IsDist n zs s D ∧ (U64s w' db D ∧ w.heap.size ≤ db) ∧ Below w.heap.size w w' := by
  obtain ⟨W0, hW0⟩ : ∃ W0, (w.alloc (.cells #[.slice fo (n + 1) fc, .slice uo zs.length tc, .slice wo zs.length wc] 29)).alloc (.cells #[.int .i64 s] 3) = W0 := ⟨_, rfl⟩
  have HW0 : Hid ((w.alloc (.cells #[.slice fo (n + 1) fc, .slice uo zs.length tc, .slice wo zs.length wc] 29)).alloc (.cells #[.int .i64 s] 3) = W0) := hW0
  have hB0 : Below w.heap.size w W0 := by rw [← hW0]; exact ((Below.refl _ w).alloc (Nat.le_refl _) _).alloc (by simp) _
  have hI : HasInts W0 (.slice (some ⟨w.heap.size + 1, 0, none⟩) 1 1) [(s : Int)] := by
    have := ints_one (w.alloc (.cells #[.slice fo (n + 1) fc, .slice uo zs.length tc, .slice wo zs.length wc] 29)) (s : Int)
    rw [hW0] at this
    simpa using this
  have HC : Hid (∀ wx, Below w.heap.size w wx → CsrIn wx n zs fo uo wo fc tc wc) := fun wx hb => h.keep hb
  have HNF : Hid (Calls Tryz.prog 23 #[.agg #[.slice fo (n + 1) fc, .slice uo zs.length tc, .slice wo zs.length wc], .slice (some ⟨w.heap.size + 1, 0, none⟩) 1 1] W0 fun e w' => ∃ L S, e = .returned (.tuple #[.pointer (some ⟨L.fi, 0, none⟩), .nilIface]) ∧ Fnd W0.heap.size w' n L (.slice fo (n + 1) fc) (.slice uo zs.length tc) (.slice wo zs.length wc) (.slice none 0 0) S ∧ Below W0.heap.size W0 w') := newFinder_good n zs fo uo wo fc tc wc W0 hz (h.keep hB0) (some ⟨w.heap.size + 1, 0, none⟩) 1 [(s : Int)] hI (by simp) (fun v hv => by simp at hv; subst hv; omega)
  have HZ : Hid (Fine n zs) := hz
  have HB0 : Hid (Below w.heap.size w W0) := hB0
  clear hW0 hB0 hI h hz
  go_enter Tryz.func9, Tryz.ntmps9
  go_wp2_with fail
  rw [HW0.out]
  refine HNF.out.mono ?_
  rintro e w1 ⟨L, S, rfl, hF, hb1⟩
  have H1 : Hid (Fnd W0.heap.size w1 n L (.slice fo (n + 1) fc) (.slice uo zs.length tc) (.slice wo zs.length wc) (.slice none 0 0) S ∧ Below W0.heap.size W0 w1) := ⟨hF, hb1⟩
  clear hF hb1
  go_wp2_with fail
  refine (distances_calls H1.out.1 H1.out.2.size HZ.out (fun wx hx => HC.out wx (btr HB0.out (H1.out.2.trans hx))) s hs).mono ?_
  rintro e w2 ⟨db, D, sv2, S2, rfl, hD, hU, _, hb2⟩
  have H2 : Hid (IsDist n zs s D ∧ (U64s w2 db D ∧ w.heap.size ≤ db) ∧ Below w.heap.size w w2) := ⟨hD, ⟨hU.1, Nat.le_trans (btr HB0.out H1.out.2).size hU.2.1⟩, btr HB0.out (H1.out.2.trans hb2)⟩
  clear hD hU hb2
  go_wp2
  go_ret2
  exact ⟨_, _, rfl, H2.out.1, H2.out.2.1, H2.out.2.2⟩
theorem from_good (n : Nat) (zs : List (Int × Int × Int)) (fo uo wo : Option Addr) (fc tc wc : Nat) (w : World) (hz : Fine n zs) (h : CsrIn w n zs fo uo wo fc tc wc) (s : Nat) (hs : s < n) :
    Calls Tryz.prog 9 #[.agg #[.slice fo (n + 1) fc, .slice uo zs.length tc, .slice wo zs.length wc], .int .i64 s] w fun e w' => ∃ db D, e = .returned (.tuple #[.slice (some ⟨db, 0, none⟩) n n, .nilIface]) ∧ IsDist n zs s D ∧ U64s w' db D ∧ Below w.heap.size w w' := by
  refine (from_new n zs fo uo wo fc tc wc w hz h s hs).mono ?_
  rintro e w' ⟨db, D, h1, h2, h3, h4⟩
  exact ⟨db, D, h1, h2, h3.1, h4⟩
end Go.Proofs.YtbaahjppofbdlaaGreatDoor
