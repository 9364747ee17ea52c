/- fault.counted, whole, over chains that end in nothing or in a number: the first links of the chain, at new places. -/
import Derived.Test.YthgmhhlgjooeaaaDoorErrG
namespace Go.Proofs.YthgmhhlgjooeaaaDoor.F1
open Go.RowKit Go.Extern

/-- what the counted chain ends in. -/
def cutTail (tv : Value) (ps : List (Int × Int)) (n : Nat) : Value := if ps.length < n then tv else .nilIface
theorem cutTail_cons (tv : Value) (p : Int × Int) (ps : List (Int × Int)) (n : Nat) : cutTail tv (p :: ps) (n + 1) = cutTail tv ps n := by
  simp [cutTail]

/-- a value that an error's variable can hold here: nothing, or something. -/
theorem isErr_shape {w : World} {tv : Value} (htv : tv = .nilIface ∨ ∃ n, tv = .iface 27 (.int .i64 n)) {ps : List (Int × Int)} {v : Value} (h : IsErr w tv ps v) : (v = .nilIface ∧ ps = [] ∧ tv = .nilIface) ∨ ∃ T x, v = .iface T x := by
  cases ps with
  | nil =>
    obtain rfl : v = tv := h
    rcases htv with rfl | ⟨n, rfl⟩
    · exact Or.inl ⟨rfl, rfl, rfl⟩
    · exact Or.inr ⟨_, _, rfl⟩
  | cons p ps => obtain ⟨b, u, e, _⟩ := h; exact Or.inr ⟨_, _, e⟩

theorem isErr_new {wm : World} {tv : Value} {p : Int × Int} {ps : List (Int × Int)} {u : Value} (h : IsErr wm tv ps u) :
    IsErr (wm.alloc (.cells #[.int .i64 p.1, .int .i64 p.2, u] 49)) tv (p :: ps) (.iface 47 (.pointer (some ⟨wm.heap.size, 0, none⟩))) :=
  ⟨_, _, rfl, by show (wm.heap.push _)[wm.heap.size]? = _; simp, h.keep (Below.keeps ((Below.refl _ _).alloc (Nat.le_refl _) _))⟩

theorem counted_calls {tv : Value} (htv : tv = .nilIface ∨ ∃ n, tv = .iface 27 (.int .i64 n)) : ∀ (n : Nat) (ps : List (Int × Int)) (v : Value) (w : World), n ≤ 64 → IsErr w tv ps v →
    Calls Tryd.prog 19 #[v, .int .i64 (n : Int)] w fun e w' => ∃ v', e = .returned v' ∧ IsErr w' (cutTail tv ps n) (ps.take n) v' ∧ Below w.heap.size w w'
  | 0, ps, v, w, _, hv => by
    rcases isErr_shape htv hv with ⟨rfl, _, _⟩ | ⟨T, x, rfl⟩
    · refine (counted_nil _ w).mono ?_
      rintro e w' ⟨rfl, rfl⟩
      exact ⟨_, rfl, by simp [cutTail, IsErr], Below.refl _ _⟩
    · refine (counted_zero T x w).mono ?_
      rintro e w' ⟨rfl, rfl⟩
      exact ⟨_, rfl, by simp [cutTail, IsErr], Below.refl _ _⟩
  | n + 1, [], v, w, hn, hv => by
    obtain rfl : v = tv := hv
    rcases htv with rfl | ⟨x, rfl⟩
    · refine (counted_nil _ w).mono ?_
      rintro e w' ⟨rfl, rfl⟩
      exact ⟨_, rfl, by simp [cutTail, IsErr], Below.refl _ _⟩
    · refine (counted_num x _ (by rw [beq_eq_false_iff_ne]; omega) w).mono ?_
      rintro e w' ⟨rfl, rfl⟩
      exact ⟨_, rfl, by simp [cutTail, IsErr], Below.refl _ _⟩
  | n + 1, p :: ps, v, w, hn, hv => by
    obtain ⟨b, u, rfl, hb, hr⟩ := hv
    have e1 : ((n + 1 : Nat) : Int) - 1 = (n : Int) := by omega
    have ih : ∀ wd : World, Below w.heap.size w wd → Calls Tryd.prog 19 #[u, .int .i64 (((n + 1 : Nat) : Int) - 1)] wd fun e w' => ∃ v', e = .returned v' ∧ IsErr w' (cutTail tv ps n) (ps.take n) v' ∧ Below wd.heap.size wd w' := fun wd hB => by
      rw [e1]
      exact counted_calls htv n ps u wd (by omega) (hr.keep (fun b c hb => by rw [hB.block b (lt_of_get hb)]; exact hb))
    have hct : cutTail tv ps n = .nilIface ∨ ∃ m, cutTail tv ps n = .iface 27 (.int .i64 m) := by
      unfold cutTail; split
      · exact htv
      · exact Or.inl rfl
    rw [cutTail_cons]
    by_cases hc : ps.take n = [] ∧ cutTail tv ps n = .nilIface
    · obtain ⟨h1, h2⟩ := hc
      refine (counted_last b p.1 p.2 u _ (by omega) (by omega) w hb (fun wd hB => (ih wd hB).mono ?_)).mono ?_
      · rintro e w' ⟨v', rfl, hi, hB'⟩
        rw [h1, h2] at hi
        obtain rfl : v' = .nilIface := hi
        exact ⟨rfl, hB'⟩
      · rintro e w' ⟨wm, hB, rfl, rfl⟩
        refine ⟨_, rfl, ?_, hB.alloc hB.size _⟩
        rw [List.take_succ_cons, h1, h2]
        exact isErr_new (show IsErr wm .nilIface [] .nilIface from rfl)
    · refine (counted_fault b p.1 p.2 u _ (by omega) (by omega) w hb (fun v' w' => IsErr w' (cutTail tv ps n) (ps.take n) v') (fun wd hB => (ih wd hB).mono ?_)).mono ?_
      · rintro e w' ⟨v', rfl, hi, hB'⟩
        rcases isErr_shape hct hi with ⟨_, h1, h2⟩ | ⟨T, x, rfl⟩
        · exact absurd ⟨h1, h2⟩ hc
        · exact ⟨T, x, rfl, hi, hB'⟩
      · rintro e w' ⟨T, x, wm, hi, hB, rfl, rfl⟩
        refine ⟨_, rfl, ?_, hB.alloc hB.size _⟩
        rw [List.take_succ_cons]
        exact isErr_new hi
end Go.Proofs.YthgmhhlgjooeaaaDoor.F1
