/- viaductref04.less; a list's two pieces; where an arc is put. -/
import Derived.Test.YtbfopkhdngfanaaNorm
import Derived.Test.YtbfopkhdngfanaaConcat
namespace Go.Proofs.Ytbfopkhdngfanaa
open Go.RowKit Go.Extern Go.Sort Go.Shelf

attribute [local go_sem] Oper.semAt_some

set_option maxRecDepth 100000 in
theorem less_calls (a b : Int × Int × Int) (w : World) : Calls Try.prog 55 #[arcV a, arcV b] w fun e w' => e = .returned (.bool (decide (lessA a b))) ∧ RowKit.Below w.heap.size w w' := by
  obtain ⟨a0, a1, a2⟩ := a
  obtain ⟨b0, b1, b2⟩ := b
  have HB : Hid (∀ u v : Obj, RowKit.Below w.heap.size w ((w.alloc u).alloc v)) := fun u v => ((RowKit.Below.refl _ w).alloc (Nat.le_refl _) _).alloc (by simp) _
  unfold arcV lessA
  simp only
  by_cases h0 : a0 < b0
  · go_enter Try.func55, Try.ntmps55
    go_wp2
    go_ret
    exact ⟨by simp [h0], HB.out _ _⟩
  · by_cases h1 : a0 = b0
    · subst h1
      by_cases h2 : a1 < b1
      · go_enter Try.func55, Try.ntmps55
        go_wp2
        go_ret
        exact ⟨by simp, HB.out _ _⟩
      · go_enter Try.func55, Try.ntmps55
        go_wp2
        go_ret
        exact ⟨by simp [h2], HB.out _ _⟩
    · go_enter Try.func55, Try.ntmps55
      go_wp2
      go_ret
      exact ⟨by simp [h0], HB.out _ _⟩

theorem Try.elemP : Try.prog.underlying 22 = some (.slice (Try.prog.elem 22)) := by kernel_rfl
theorem Try.sizeP (w : World) : (sizeOf (Try.prog.elem 22)).run Try.prog w = .ok 3 w := by kernel_rfl
/-- a slice that can be cut. -/
def Cut (lo : Option Addr) (n lc : Nat) : Prop := (lo = none ∧ n = 0 ∧ lc = 0) ∨ ∃ b off, lo = some ⟨b, off, none⟩ ∧ 0 < n ∧ n ≤ lc
theorem Cut.le {lo : Option Addr} {n lc : Nat} (h : Cut lo n lc) : n ≤ lc ∧ (lo = none → lc = 0) := by
  rcases h with ⟨rfl, rfl, rfl⟩ | ⟨b, off, rfl, h1, h2⟩
  · exact ⟨Nat.le_refl _, fun _ => rfl⟩
  · exact ⟨h2, fun e => by cases e⟩
theorem Cut.to {lo : Option Addr} {n lc : Nat} (h : Cut lo n lc) (i : Nat) (hi : i ≤ n) (w : World) : (Instr.slice 22 (.slice lo n lc) none (some (.int .i64 (i : Int))) none).run Try.prog w = .ok (.slice lo i lc) w := by
  have hle := h.le.1
  rw [run_slice_h (ht := Try.elemP) (h0 := by omega) (h2 := by omega), Try.sizeP]
  have e2 : (i : Int).toNat = i := by omega
  simp only [Result.andThen_ok, sliced, e2]
  rcases h with ⟨rfl, rfl, rfl⟩ | ⟨b, off, rfl, h1, h2⟩
  · simp
  · simp [Addr.add]
theorem Cut.from {lo : Option Addr} {n lc : Nat} (h : Cut lo n lc) (i : Nat) (hi : i ≤ n) : ∃ ao, (∀ w, (Instr.slice 22 (.slice lo n lc) (some (.int .i64 (i : Int))) none none).run Try.prog w = .ok (.slice ao (n - i) (lc - i)) w) ∧ (ao = none → lc - i = 0) ∧ ∀ (w : World) (l : List (Int × Int × Int)), l.length = n → HasArcs w (.slice lo n lc) l → HasArcs w (.slice ao (n - i) (lc - i)) (l.drop i) := by
  have hle := h.le.1
  have e2 : (i : Int).toNat = i := by omega
  refine ⟨if lc = i then lo else lo.map (·.add (i * 3)), fun w => ?_, fun e => ?_, fun w l hl hA => ?_⟩
  · rw [run_slice_l (ht := Try.elemP) (h0 := by omega) (h1 := by omega), Try.sizeP]
    simp only [Result.andThen_ok, sliced, e2]
  · rcases h with ⟨rfl, rfl, rfl⟩ | ⟨b, off, rfl, h1, h2⟩
    · omega
    · split at e
      · omega
      · simp at e
  · refine ⟨_, _, by rw [List.length_drop, hl], fun j a hj => ?_⟩
    rw [List.getElem?_drop] at hj
    have hlt := (List.getElem?_eq_some_iff.1 hj).1
    obtain ⟨b, off, e, hb, c0, c1, c2⟩ := hA.at hj
    rw [if_neg (by omega), e]
    refine ⟨b, off + i * 3, by simp [Addr.add], hb, ?_, ?_, ?_⟩
    · rw [show off + i * 3 + j * 3 = off + (i + j) * 3 by omega]; exact c0
    · rw [show off + i * 3 + j * 3 = off + (i + j) * 3 by omega]; exact c1
    · rw [show off + i * 3 + j * 3 = off + (i + j) * 3 by omega]; exact c2
theorem arcs_take {w : World} {lo : Option Addr} {n lc : Nat} {l : List (Int × Int × Int)} (h : HasArcs w (.slice lo n lc) l) (i : Nat) (hi : i ≤ l.length) : HasArcs w (.slice lo i lc) (l.take i) := by
  refine ⟨lo, lc, by rw [List.length_take, Nat.min_eq_left hi], fun j a hj => ?_⟩
  have hlt := (List.getElem?_eq_some_iff.1 hj).1
  rw [List.length_take] at hlt
  rw [List.getElem?_take_of_lt (by omega)] at hj
  exact h.at hj
/-- where an arc is put. -/
theorem put_split : ∀ (l : List (Int × Int × Int)) (a : Int × Int × Int), ∃ k, k ≤ l.length ∧ (∀ j x, j < k → l[j]? = some x → lessA x a) ∧ ((k = l.length ∧ putA l a = l.take k ++ [a] ++ l.drop k) ∨ ∃ b, l[k]? = some b ∧ ¬ lessA b a ∧ ((sameA b a ∧ putA l a = l.take k ++ [(a.1, a.2.1, min a.2.2 b.2.2)] ++ l.drop (k + 1)) ∨ (¬ sameA b a ∧ putA l a = l.take k ++ [a] ++ l.drop k)))
  | [], a => ⟨0, Nat.le_refl _, fun j x h => by omega, Or.inl ⟨rfl, rfl⟩⟩
  | b :: r, a => by
    by_cases h : lessA b a
    · obtain ⟨k, hk, h1, h2⟩ := put_split r a
      have e : putA (b :: r) a = b :: putA r a := by rw [putA, if_pos h]
      refine ⟨k + 1, by simp; omega, fun j x hj hx => ?_, ?_⟩
      · cases j with
        | zero => simp at hx; subst hx; exact h
        | succ j => exact h1 j x (by omega) (by simpa using hx)
      · rw [e]
        rcases h2 with ⟨hk', e'⟩ | ⟨c, hc, hn, ⟨hs, e'⟩ | ⟨hs, e'⟩⟩
        · exact Or.inl ⟨by simp; exact hk', by rw [e']; simp⟩
        · exact Or.inr ⟨c, by simpa using hc, hn, Or.inl ⟨hs, by rw [e']; simp⟩⟩
        · exact Or.inr ⟨c, by simpa using hc, hn, Or.inr ⟨hs, by rw [e']; simp⟩⟩
    · refine ⟨0, Nat.zero_le _, fun j x hj => by omega, Or.inr ⟨b, rfl, h, ?_⟩⟩
      by_cases hs : sameA b a
      · exact Or.inl ⟨hs, by rw [putA, if_neg h, if_pos hs]; simp⟩
      · exact Or.inr ⟨hs, by rw [putA, if_neg h, if_neg hs]; simp⟩
end Go.Proofs.Ytbfopkhdngfanaa
