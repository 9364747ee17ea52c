/- hier.checkNodes. -/
import Derived.Test.YtodilocmfdeehaaGreatDoorHrB
import Derived.Deep.OwnRows
namespace Go.Proofs.YtodilocmfdeehaaGreatDoor.Hi
open Go.RowKit Go.Extern

attribute [local go_sem] Oper.semAt_some

theorem infoBo : (Tryz.prog.info? 4).map (fun i => (i.zero, i.size, i.bytes)) = some (some (.bool false), 1, 1) := by kernel_rfl
/-- a row of n truths: those of xs are true. -/
structure SeenAt (w : World) (S n : Nat) (xs : List Nat) : Prop where
  lt : S < w.heap.size
  cell : ∀ j, j < n → w.cell? ⟨S, j, none⟩ = some (.bool (decide (j ∈ xs)))
  free : ∀ j, w.frozen? ⟨S, j, none⟩ = false
theorem SeenAt.set {w : World} {S n : Nat} {xs : List Nat} (h : SeenAt w S n xs) {x : Nat} (hx : x < n) : SeenAt (w.setCell ⟨S, x, none⟩ (.bool true)) S n (xs ++ [x]) := by
  refine ⟨by simpa [World.setCell] using h.lt, fun j hj => ?_, fun j => by rw [World.frozen?_setCell]; exact h.free j⟩
  by_cases e : j = x
  · subst e
    rw [World.cell?_setCell_same _ _ _ (h.cell j hj)]
    simp
  · rw [World.cell?_setCell_other _ _ _ _ (by intro h; simp only [Addr.mk.injEq] at h; omega), h.cell j hj]
    simp [e]
theorem seen_new (w : World) (n : Nat) : SeenAt (w.alloc (.cells (madeCells #[.bool false] n) 4)) w.heap.size n [] := by
  have hh := heap_newW w (.cells (madeCells #[.bool false] n) 4)
  have hlt := lt_of_get hh
  generalize w.alloc (.cells (madeCells #[.bool false] n) 4) = W at hh hlt
  refine ⟨hlt, fun j hj => ?_, fun j => ?_⟩
  · have e : (madeCells #[.bool false] n)[j]? = some (.bool false) := by simp [madeCells, hj, Nat.mod_one]
    simp [World.cell?, hh, e]
  · simp only [World.frozen?, hh]
    simp
theorem take_snoc {N : List Nat} {k : Nat} (h : k < N.length) : N.take (k + 1) = N.take k ++ [nth N k] := by
  rw [List.take_add_one, nth_get h]
  rfl

set_option maxRecDepth 100000 in
set_option maxHeartbeats 2000000 in
theorem checkNodes_calls (ao : Option Addr) (cap n : Nat) (N : List Nat) (w : World) (hN : HasWs w (.slice ao n cap) N) (hn : n ≤ 65536) :
    Calls Tryz.prog 57 #[.slice ao n cap] w fun e w' => ∃ v, e = .returned v ∧ IsTold w' (cn N) v ∧ Below w.heap.size w w' := by
  have hl := hN.len
  have HS : Hid (∀ k, nth N k < 4294967296) := hN.small
  have HN : Hid (HasWs w (.slice ao n cap) N) := hN
  have HL : Hid (N.length = n) := hl
  clear hl hN
  have hmk := run_make_row' (P := Tryz.prog) 101 4 (.bool false) 1 Tryz.underlying101 infoBo rfl .i64 .i64 n (by omega) (by omega)
  obtain ⟨W0, hW0⟩ : ∃ W0, w.alloc (.cells (madeCells #[.bool false] n) 4) = W0 := ⟨_, rfl⟩
  have HW0 : Hid (w.alloc (.cells (madeCells #[.bool false] n) 4) = W0) := hW0
  have H0 : Hid (SeenAt W0 w.heap.size n (N.take 0) ∧ Below w.heap.size w W0) := by rw [← hW0]; exact ⟨seen_new w n, (Below.refl _ _).alloc (Nat.le_refl _) _⟩
  clear hW0
  go_enter Tryz.func57, Tryz.ntmps57
  go_wp2_with fail
  rw [HW0.out]
  go_loopw [11] (fun iv wr => ∃ k : Nat, k ≤ n ∧ iv = .int .i64 k ∧ Hid (ferr 3 (cnF N) 0 n = ferr 3 (cnF N) k (n - k)) ∧ Hid (SeenAt wr w.heap.size n (N.take k)) ∧ Hid (Below w.heap.size w wr)) (fun iv _ => n - (intOf iv).toNat)
  case atStart => exact ⟨0, by omega, rfl, rfl, H0.out.1, H0.out.2⟩
  case round =>
    obtain ⟨k, hk, rfl, HF, HSe, HB⟩ := hrel
    rcases Nat.lt_or_eq_of_le hk with h1 | h1
    · obtain ⟨b, off, e1, hbl, hc⟩ := (HN.out.keep HB.out).cells (by omega)
      subst e1
      have ck := hc k h1
      clear hc
      obtain ⟨x, hx⟩ : ∃ x, nth N k = x := ⟨_, rfl⟩
      have hx9 : x < 4294967296 := by rw [← hx]; exact HS.out k
      have hw9 : IntKind.i64.wrap (x : Int) = (x : Int) := by rw [IntKind.wrap_i64]; omega
      have HX : Hid (cnF N k = if n ≤ x ∨ x ∈ N.take k then 20 else 0) := by show _ = _; unfold cnF; rw [hx, HL.out]
      have HT : Hid (N.take (k + 1) = N.take k ++ [x]) := by rw [← hx]; exact take_snoc (by rw [HL.out]; exact h1)
      rw [hx] at ck
      clear hx
      by_cases hxn : n ≤ x
      · have d1 : decide ((n : Int) ≤ (x : Int)) = true := by simp; omega
        have hne : cnF N k ≠ 0 := by rw [HX.out, if_pos (Or.inl hxn)]; decide
        have HR : Hid (cn N = (20, [((3 : Int), (k : Int))])) := by
          show _ = _
          rw [cn, HL.out, HF.out, ferr_hit h1 hne, HX.out, if_pos (Or.inl hxn)]
        clear hne
        go_wp2_with (go_at_call 84; refine (at_some 3 (k : Int) 61 (.int .i64 20) _).mono ?_; rintro e w' ⟨rfl, rfl⟩)
        go_ret
        refine ⟨_, rfl, ?_, HB.out.alloc HB.out.size _⟩
        rw [HR.out]
        exact told_at _ (by decide)
      · have d1 : decide ((n : Int) ≤ (x : Int)) = false := by simp; omega
        have cs := HSe.out.cell x (by omega)
        have fs := HSe.out.free x
        have hxi : (x : Int) < (n : Int) := by omega
        by_cases hm : x ∈ N.take k
        · have hne : cnF N k ≠ 0 := by rw [HX.out, if_pos (Or.inr hm)]; decide
          have HR : Hid (cn N = (20, [((3 : Int), (k : Int))])) := by
            show _ = _
            rw [cn, HL.out, HF.out, ferr_hit h1 hne, HX.out, if_pos (Or.inr hm)]
          rw [decide_eq_true hm] at cs
          clear hne hm
          go_wp2_with (go_at_call 84; refine (at_some 3 (k : Int) 61 (.int .i64 20) _).mono ?_; rintro e w' ⟨rfl, rfl⟩)
          go_ret
          refine ⟨_, rfl, ?_, HB.out.alloc HB.out.size _⟩
          rw [HR.out]
          exact told_at _ (by decide)
        · have HR : Hid (ferr 3 (cnF N) 0 n = ferr 3 (cnF N) (k + 1) (n - (k + 1))) := by
            show _ = _
            rw [HF.out, ferr_step h1 (by rw [HX.out, if_neg (by simp only [not_or]; exact ⟨hxn, hm⟩)])]
          have HN2 : Hid (SeenAt (wr.setCell ⟨w.heap.size, x, none⟩ (.bool true)) w.heap.size n (N.take (k + 1)) ∧ Below w.heap.size w (wr.setCell ⟨w.heap.size, x, none⟩ (.bool true))) := ⟨by rw [HT.out]; exact HSe.out.set (by omega), HB.out.setCell (Nat.le_refl _) _⟩
          rw [decide_eq_false hm] at cs
          clear hm
          go_wp2
          go_roundw
          case rel => exact ⟨k + 1, by omega, by simp, HR, HN2.out.1, HN2.out.2⟩
          case measure => simp [intOf]; omega
    · subst h1
      have HR : Hid (cn N = (0, [])) := by
        show _ = _
        rw [cn, HL.out, HF.out, ferr_end]
      go_wp2
      go_ret
      refine ⟨_, rfl, ?_, HB.out⟩
      rw [HR.out]
      exact told_no _
end Go.Proofs.YtodilocmfdeehaaGreatDoor.Hi
