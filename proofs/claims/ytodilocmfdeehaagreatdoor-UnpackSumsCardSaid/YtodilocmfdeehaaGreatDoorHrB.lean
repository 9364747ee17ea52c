/- rows of words in memory; hier.checkFirst. -/
import Derived.Test.YtodilocmfdeehaaGreatDoorHrA
namespace Go.Proofs.YtodilocmfdeehaaGreatDoor.Hi
open Go.RowKit Go.Extern

attribute [local go_sem] Oper.semAt_some

/-- words in memory. -/
def HasWs (w : World) (lv : Value) (xs : List Nat) : Prop :=
  ∃ ao cap, lv = .slice ao xs.length cap ∧ xs.length ≤ cap ∧ ∀ (j a : Nat), xs[j]? = some a → a < 4294967296 ∧ ∃ b off, ao = some ⟨b, off, none⟩ ∧ b < w.heap.size ∧ w.cell? ⟨b, off + j, none⟩ = some (.int .u32 (a : Int))
theorem HasWs.keep {w w' : World} {lv : Value} {xs : List Nat} (h : HasWs w lv xs) (hb : Below w.heap.size w w') : HasWs w' lv xs := by
  obtain ⟨ao, cap, e, hcap, hc⟩ := h
  refine ⟨ao, cap, e, hcap, fun j a hj => ?_⟩
  obtain ⟨g, b, off, ea, hl, h0⟩ := hc j a hj
  exact ⟨g, b, off, ea, Nat.lt_of_lt_of_le hl hb.size, (hb.cell (p := ⟨b, _, none⟩) hl).trans h0⟩
theorem HasWs.len {w : World} {ao : Option Addr} {n cap : Nat} {xs : List Nat} (h : HasWs w (.slice ao n cap) xs) : xs.length = n := by
  obtain ⟨_, _, e, _⟩ := h
  injection e with _ e _
  exact e.symm
theorem HasWs.cap {w : World} {ao : Option Addr} {n cap : Nat} {xs : List Nat} (h : HasWs w (.slice ao n cap) xs) : n ≤ cap := by
  obtain ⟨_, _, e, h, _⟩ := h
  injection e with _ e1 e2
  omega
theorem HasWs.cells {w : World} {ao : Option Addr} {n cap : Nat} {xs : List Nat} (h : HasWs w (.slice ao n cap) xs) (h0 : 0 < n) : ∃ b off, ao = some ⟨b, off, none⟩ ∧ b < w.heap.size ∧ ∀ k, k < n → w.cell? ⟨b, off + k, none⟩ = some (.int .u32 (nth xs k : Int)) := by
  have hl := h.len
  obtain ⟨ao', cap', e, _, hc⟩ := h
  injection e with e1 e2 e3
  subst e1
  obtain ⟨_, b, off, e1, h1, _⟩ := hc 0 _ (nth_get (by omega))
  refine ⟨b, off, e1, h1, fun k hk => ?_⟩
  obtain ⟨_, b', off', e1', h1', h2⟩ := hc k _ (nth_get (by omega))
  rw [e1] at e1'
  injection e1' with e1'
  injection e1' with g1 g2
  subst g1 g2
  exact h2
theorem HasWs.small {w : World} {lv : Value} {xs : List Nat} (h : HasWs w lv xs) (k : Nat) : nth xs k < 4294967296 := by
  obtain ⟨ao', cap', e, _, hc⟩ := h
  rcases Nat.lt_or_ge k xs.length with h1 | h1
  · exact (hc k _ (nth_get h1)).1
  · unfold nth
    rw [List.getD_eq_getElem?_getD, List.getElem?_eq_none h1]
    simp
theorem heap_newW (w : World) (o : Obj) : (w.alloc o).heap[w.heap.size]? = some o := by
  show (w.heap.push o)[w.heap.size]? = _
  simp
theorem told_no (w : World) : IsTold w (0, []) .nilIface := Or.inl ⟨rfl, rfl⟩
theorem told_num (w : World) {c : Int} (hc : c ≠ 0) : IsTold w (c, []) (.iface 61 (.int .i64 c)) := Or.inr ⟨hc, rfl⟩
theorem told_at (w : World) {c p k : Int} (hc : c ≠ 0) : IsTold (w.alloc (.cells #[.int .i64 p, .int .i64 k, .iface 61 (.int .i64 c)] 83)) (c, [(p, k)]) (.iface 79 (.pointer (some ⟨w.heap.size, 0, none⟩))) :=
  Or.inr ⟨hc, _, _, rfl, heap_newW w _, rfl⟩
theorem told_isE {w : World} {e : Int × List (Int × Int)} {v : Value} (h : IsTold w e v) : IsE v := by
  rcases h with ⟨_, h⟩ | ⟨_, h⟩
  · exact Or.inl h
  · obtain ⟨c, ps⟩ := e
    cases ps with
    | nil => exact Or.inr ⟨_, _, h⟩
    | cons p ps =>
      obtain ⟨b, u, h, _⟩ := h
      exact Or.inr ⟨_, _, h⟩

set_option maxRecDepth 100000 in
set_option maxHeartbeats 2000000 in
theorem checkFirst_calls (fb off cap n m : Nat) (F : List Nat) (w : World) (hF : HasWs w (.slice (some ⟨fb, off, none⟩) (n + 1) cap) F) (hn : n ≤ 65536) (hm : m ≤ 1048576) :
    Calls Tryz.prog 56 #[.slice (some ⟨fb, off, none⟩) (n + 1) cap, .int .i64 (m : Int)] w fun e w' => ∃ v, e = .returned v ∧ IsTold w' (cf F m) v ∧ Below w.heap.size w w' := by
  have hl := hF.len
  have hcap := hF.cap
  obtain ⟨b', off', e1, hlt, hc⟩ := hF.cells (by omega)
  injection e1 with e1
  injection e1 with g1 g2
  subst g1 g2
  have HS : Hid (∀ k, nth F k < 4294967296) := hF.small
  have HC : Hid (∀ k, k < n + 1 → w.cell? ⟨fb, off + k, none⟩ = some (.int .u32 (nth F k : Int))) := hc
  have HL : Hid (F.length = n + 1) := hl
  clear hc hl hF
  have c0 : w.cell? ⟨fb, off, none⟩ = some (.int .u32 (nth F 0 : Int)) := HC.out 0 (by omega)
  have HCF : Hid (cf F m = if nth F 0 ≠ 0 then (14, []) else orE (ferr 3 (cfF F) 0 n) (if nth F n ≠ m then (14, []) else (0, []))) := by
    show _ = _
    unfold cf
    rw [HL.out]
    rfl
  by_cases hz : nth F 0 = 0
  · rw [hz] at c0
    rw [if_neg (by simp [hz])] at HCF
    have HE : ∀ x, nth F n = x → ((x : Int) != (m : Int)) = decide (x ≠ m) := fun x _ => by
      by_cases h : x = m
      · subst h; simp
      · have : ¬ ((x : Int) = (m : Int)) := by omega
        simp [h, this]
    by_cases hc1 : cap = 1
    · subst hc1
      obtain rfl : n = 0 := by omega
      have HE0 := HE 0 hz
      clear HE
      have hrd : ∀ b : Bool, decide (0 ≠ m) = b → Calls Tryz.prog 56 #[.slice (some ⟨fb, off, none⟩) (0 + 1) 1, .int .i64 (m : Int)] w fun e w' => ∃ v, e = .returned v ∧ IsTold w' (if b = true then ((14 : Int), []) else (0, [])) v ∧ Below w.heap.size w w' := by
        intro b hb
        rw [hb] at HE0
        have HE1 : ((0 : Int) != (m : Int)) = b := HE0
        clear HE0 hb
        cases b
        all_goals
          go_enter Tryz.func56, Tryz.ntmps56
          go_wp2_with fail
          go_loopw [15] (fun iv wr => iv = .int .i64 0 ∧ wr = w) (fun iv _ => 0)
          case atStart => exact ⟨rfl, rfl⟩
          case round =>
            obtain ⟨rfl, rfl⟩ := hrel
            go_wp2
            go_ret
            refine ⟨_, rfl, ?_, Below.refl _ _⟩
            first
            | exact told_no _
            | exact told_num _ (by decide)
      refine (hrd _ rfl).mono ?_
      rintro e w' ⟨v, h1, h2, h3⟩
      refine ⟨v, h1, ?_, h3⟩
      rw [HCF.out, hz]
      simpa [ferr, orE] using h2
    · have HE1 : Hid (∀ x, nth F n = x → ((x : Int) != (m : Int)) = decide (x ≠ m)) := HE
      clear HE
      go_enter Tryz.func56, Tryz.ntmps56
      go_wp2_with fail
      go_loopw [15] (fun iv wr => ∃ k : Nat, k ≤ n ∧ iv = .int .i64 k ∧ wr = w ∧ Hid (ferr 3 (cfF F) 0 n = ferr 3 (cfF F) k (n - k))) (fun iv _ => n - (intOf iv).toNat)
      case atStart => exact ⟨0, by omega, rfl, rfl, rfl⟩
      case round =>
        obtain ⟨k, hk, rfl, rfl, HF⟩ := hrel
        rcases Nat.lt_or_eq_of_le hk with h1 | h1
        · have ca : wr.cell? ⟨fb, off + 1 + k, none⟩ = some (.int .u32 (nth F (k + 1) : Int)) := by rw [show off + 1 + k = off + (k + 1) by omega]; exact HC.out (k + 1) (by omega)
          have cb : wr.cell? ⟨fb, off + k, none⟩ = some (.int .u32 (nth F k : Int)) := HC.out k (by omega)
          obtain ⟨x, hx⟩ : ∃ x, nth F (k + 1) = x := ⟨_, rfl⟩
          obtain ⟨y, hy⟩ : ∃ y, nth F k = y := ⟨_, rfl⟩
          rw [hx] at ca
          rw [hy] at cb
          have HX : Hid (cfF F k = if x < y then 14 else 0) := by show _ = _; unfold cfF; rw [hx, hy]
          clear hx hy
          by_cases hxy : x < y
          · have d1 : decide ((x : Int) < (y : Int)) = true := by simp; omega
            have hne : cfF F k ≠ 0 := by rw [HX.out, if_pos hxy]; decide
            have HR : Hid (cf F m = (14, [((3 : Int), (k : Int))])) := by
              show _ = _
              rw [HCF.out, HF.out, ferr_hit h1 hne, HX.out, if_pos hxy, orE, if_neg (by simp)]
            clear hne
            go_wp2_with (go_at_call 84; refine (at_some 3 (k : Int) 61 (.int .i64 14) _).mono ?_; rintro e w' ⟨rfl, rfl⟩)
            go_ret
            refine ⟨_, rfl, ?_, (Below.refl _ _).alloc (Nat.le_refl _) _⟩
            rw [HR.out]
            exact told_at _ (by decide)
          · have d1 : decide ((x : Int) < (y : Int)) = false := by simp; omega
            have HR : Hid (ferr 3 (cfF F) 0 n = ferr 3 (cfF F) (k + 1) (n - (k + 1))) := by
              show _ = _
              rw [HF.out, ferr_step h1 (by rw [HX.out, if_neg hxy])]
            go_wp2
            go_roundw
            case rel => exact ⟨k + 1, by omega, by simp, trivial, HR⟩
            case measure => simp [intOf]; omega
        · subst h1
          have cb : wr.cell? ⟨fb, off + k, none⟩ = some (.int .u32 (nth F k : Int)) := HC.out k (by omega)
          obtain ⟨y, hy⟩ : ∃ y, nth F k = y := ⟨_, rfl⟩
          have hy9 : y < 4294967296 := by rw [← hy]; exact HS.out k
          have d1 := HE1.out y hy
          have HR : Hid (cf F m = if y ≠ m then (14, []) else (0, [])) := by
            show _ = _
            rw [HCF.out, HF.out, ferr_end, hy, orE, if_pos rfl]
          rw [hy] at cb
          clear hy
          have hw9 : IntKind.i64.wrap (y : Int) = (y : Int) := by rw [IntKind.wrap_i64]; omega
          by_cases hym : y = m
          · have d2 : ((y : Int) != (m : Int)) = false := by rw [d1]; simp [hym]
            clear d1
            go_wp2
            go_ret
            refine ⟨_, rfl, ?_, Below.refl _ _⟩
            rw [HR.out, if_neg (by simp [hym])]
            exact told_no _
          · have d2 : ((y : Int) != (m : Int)) = true := by rw [d1]; simp [hym]
            clear d1
            go_wp2
            go_ret
            refine ⟨_, rfl, ?_, Below.refl _ _⟩
            rw [HR.out, if_pos hym]
            exact told_num _ (by decide)
  · have z1 : (((nth F 0 : Nat) : Int) != 0) = true := by simp; exact hz
    go_enter Tryz.func56, Tryz.ntmps56
    go_wp2
    go_ret
    exact ⟨_, rfl, by rw [HCF.out, if_pos hz]; exact told_num _ (by decide), Below.refl _ _⟩
end Go.Proofs.YtodilocmfdeehaaGreatDoor.Hi
