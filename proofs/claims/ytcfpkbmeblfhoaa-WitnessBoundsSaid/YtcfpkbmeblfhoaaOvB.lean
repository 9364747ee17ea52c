/- overlay's rows: where a half stands (slices.BinarySearchFunc). -/
import Derived.Test.YtcfpkbmeblfhoaaOvH
import Derived.BigQuiet
namespace Go.Proofs.Ytcfpkbmeblfhoaa
open Go.RowKit Go.Extern

attribute [local go_sem] Oper.semAt_some

abbrev H3 := Int × Int × Int
/-- a half as a value. -/
def hV (a : H3) : Value := .agg #[.int .i64 a.1, .int .u64 a.2.1, .int .i64 a.2.2]
/-- a row rises. -/
def RiseH (l : List H3) : Prop := l.Pairwise fun a b => a.1 < b.1
/-- how many lie below. -/
def lowH (l : List H3) (x : Int) : Nat := l.countP fun a => decide (a.1 < x)
/-- is it there? -/
def hasH (l : List H3) (x : Int) : Bool := l.any fun a => a.1 == x
theorem countP_at {α : Type} (p : α → Bool) : ∀ (l : List α) (i : Nat), i ≤ l.length → (∀ t a, t < i → l[t]? = some a → p a = true) → (∀ t a, i ≤ t → l[t]? = some a → p a = false) → l.countP p = i
  | [], i, hi, _, _ => by simp at hi; simp [hi]
  | a :: r, 0, _, _, h2 => by
    rw [List.countP_eq_zero]
    intro x hx
    obtain ⟨t, ht⟩ := List.getElem?_of_mem hx
    simp [h2 t x (Nat.zero_le _) ht]
  | a :: r, i + 1, hi, h1, h2 => by
    rw [List.countP_cons_of_pos (h1 0 a (by omega) rfl), countP_at p r i (by simpa using hi) (fun t b ht hb => h1 (t + 1) b (by omega) (by simpa using hb)) (fun t b ht hb => h2 (t + 1) b (by omega) (by simpa using hb))]
theorem RiseH.lt {l : List H3} (h : RiseH l) {i j : Nat} {a b : H3} (hi : l[i]? = some a) (hj : l[j]? = some b) (hij : i < j) : a.1 < b.1 := by
  obtain ⟨h1, rfl⟩ := List.getElem?_eq_some_iff.1 hi
  obtain ⟨h2, rfl⟩ := List.getElem?_eq_some_iff.1 hj
  exact (List.pairwise_iff_getElem.1 h) i j h1 h2 hij
theorem hasH_at {l : List H3} {x : Int} {i : Nat} (hlt : ∀ t a, t < i → l[t]? = some a → a.1 < x) (hge : ∀ t a, i ≤ t → l[t]? = some a → x ≤ a.1) (hr : RiseH l) : hasH l x = (match l[i]? with | some a => a.1 == x | none => false) := by
  unfold hasH
  cases hi : l[i]? with
  | none =>
    rw [List.any_eq_false]
    intro a ha
    obtain ⟨t, ht⟩ := List.getElem?_of_mem ha
    have hl := (List.getElem?_eq_some_iff.1 ht).1
    have hi' := List.getElem?_eq_none_iff.1 hi
    have := hlt t a (by omega) ht
    simp
    omega
  | some b =>
    by_cases hb : b.1 = x
    · rw [List.any_eq_true.2 ⟨b, List.mem_of_getElem? hi, by simp [hb]⟩]
      simp [hb]
    · rw [List.any_eq_false.2]
      · simp [hb]
      · intro a ha
        obtain ⟨t, ht⟩ := List.getElem?_of_mem ha
        have hbx := hge i b (Nat.le_refl _) hi
        rcases Nat.lt_trichotomy t i with h | h | h
        · have := hlt t a h ht
          simp
          omega
        · subst h
          rw [hi] at ht
          cases ht
          simpa using hb
        · have := hr.lt hi ht h
          simp
          omega

theorem btr' {w wm wy : World} (h1 : Below w.heap.size w wm) (h2 : Below wm.heap.size wm wy) : Below w.heap.size w wy := h1.trans (h2.mono h1.size)
end Go.Proofs.Ytcfpkbmeblfhoaa
