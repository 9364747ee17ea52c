/- overlay's rows: where a half stands (slices.BinarySearchFunc). -/
import Derived.Test.YtbkclhaonbjobaaGreatOvH
import Derived.BigQuiet
namespace Go.Proofs.YtbkclhaonbjobaaGreat
open Go.RowKit Go.Extern

attribute [local go_sem] Oper.semAt_some

abbrev H3 := Int × Int × Int
/-- a half as a value. -/
def hV (a : H3) : Value := .agg #[.int .i64 a.1, .int .u64 a.2.1, .int .i64 a.2.2]
/-- a row rises. -/
def RiseH (l : List H3) : Prop := l.Pairwise fun a b => a.1 < b.1
/-- how many lie below. -/
def lowH (l : List H3) (x : Int) : Nat := l.countP fun a => decide (a.1 < x)
/-- is it there? -/
def hasH (l : List H3) (x : Int) : Bool := l.any fun a => a.1 == x
theorem countP_at {α : Type} (p : α → Bool) : ∀ (l : List α) (i : Nat), i ≤ l.length → (∀ t a, t < i → l[t]? = some a → p a = true) → (∀ t a, i ≤ t → l[t]? = some a → p a = false) → l.countP p = i
  | [], i, hi, _, _ => by simp at hi; simp [hi]
  | a :: r, 0, _, _, h2 => by
    rw [List.countP_eq_zero]
    intro x hx
    obtain ⟨t, ht⟩ := List.getElem?_of_mem hx
    simp [h2 t x (Nat.zero_le _) ht]
  | a :: r, i + 1, hi, h1, h2 => by
    rw [List.countP_cons_of_pos (h1 0 a (by omega) rfl), countP_at p r i (by simpa using hi) (fun t b ht hb => h1 (t + 1) b (by omega) (by simpa using hb)) (fun t b ht hb => h2 (t + 1) b (by omega) (by simpa using hb))]
theorem RiseH.lt {l : List H3} (h : RiseH l) {i j : Nat} {a b : H3} (hi : l[i]? = some a) (hj : l[j]? = some b) (hij : i < j) : a.1 < b.1 := by
  obtain ⟨h1, rfl⟩ := List.getElem?_eq_some_iff.1 hi
  obtain ⟨h2, rfl⟩ := List.getElem?_eq_some_iff.1 hj
  exact (List.pairwise_iff_getElem.1 h) i j h1 h2 hij
theorem hasH_at {l : List H3} {x : Int} {i : Nat} (hlt : ∀ t a, t < i → l[t]? = some a → a.1 < x) (hge : ∀ t a, i ≤ t → l[t]? = some a → x ≤ a.1) (hr : RiseH l) : hasH l x = (match l[i]? with | some a => a.1 == x | none => false) := by
  unfold hasH
  cases hi : l[i]? with
  | none =>
    rw [List.any_eq_false]
    intro a ha
    obtain ⟨t, ht⟩ := List.getElem?_of_mem ha
    have hl := (List.getElem?_eq_some_iff.1 ht).1
    have hi' := List.getElem?_eq_none_iff.1 hi
    have := hlt t a (by omega) ht
    simp
    omega
  | some b =>
    by_cases hb : b.1 = x
    · rw [List.any_eq_true.2 ⟨b, List.mem_of_getElem? hi, by simp [hb]⟩]
      simp [hb]
    · rw [List.any_eq_false.2]
      · simp [hb]
      · intro a ha
        obtain ⟨t, ht⟩ := List.getElem?_of_mem ha
        have hbx := hge i b (Nat.le_refl _) hi
        rcases Nat.lt_trichotomy t i with h | h | h
        · have := hlt t a h ht
          simp
          omega
        · subst h
          rw [hi] at ht
          cases ht
          simpa using hb
        · have := hr.lt hi ht h
          simp
          omega

theorem btr' {w wm wy : World} (h1 : Below w.heap.size w wm) (h2 : Below wm.heap.size wm wy) : Below w.heap.size w wy := h1.trans (h2.mono h1.size)
set_option maxHeartbeats 1000000 in
theorem find1_calls (a : H3) (x : Int) (w : World) : Calls Tryz.prog 83 #[hV a, .int .i64 x] w fun e w' => e = .returned (.int .i64 (cmpI a.1 x)) ∧ Below w.heap.size w w' := by
  have HB : Hid (Below w.heap.size w (w.alloc (.cells #[.int .i64 a.1, .int .u64 a.2.1, .int .i64 a.2.2] 49))) := (Below.refl _ w).alloc (Nat.le_refl _) _
  unfold hV
  go_enter Tryz.func83, Tryz.ntmps83
  go_wp2_with fail
  refine (compare_calls a.1 x _).mono ?_
  rintro e w1 ⟨rfl, rfl⟩
  go_wp2
  go_ret
  exact ⟨rfl, HB.out⟩

set_option maxRecDepth 100000 in
set_option maxHeartbeats 4000000 in
theorem bsf_calls (ao : Option Addr) (cap : Nat) (l : List H3) (x : Int) (w : World) (h : HasHs w (.slice ao l.length cap) l) (hr : RiseH l) (hn : l.length < 4611686018427387904) :
    Calls Tryz.prog 82 #[.slice ao l.length cap, .int .i64 x, .func (.func 83) #[] #[]] w fun e w' => e = .returned (.tuple #[.int .i64 (lowH l x : Nat), .bool (hasH l x)]) ∧ Below w.heap.size w w' := by
  have HL : Hid (HasHs w (.slice ao l.length cap) l ∧ RiseH l) := ⟨h, hr⟩
  clear h hr
  go_enter Tryz.func82, Tryz.ntmps82
  go_wp2_with fail
  go_loopw [9, 10] (fun iv jv wr => ∃ lo hi : Nat, iv = .int .i64 lo ∧ jv = .int .i64 hi ∧ lo ≤ hi ∧ hi ≤ l.length ∧ Below w.heap.size w wr ∧ (∀ t a, t < lo → l[t]? = some a → a.1 < x) ∧ (∀ t a, hi ≤ t → l[t]? = some a → x ≤ a.1)) (fun iv jv _ => (intOf jv).toNat - (intOf iv).toNat)
  case atStart => exact ⟨0, l.length, rfl, rfl, Nat.zero_le _, Nat.le_refl _, Below.refl _ _, fun t a ht => by omega, fun t a ht ha => by have := (List.getElem?_eq_some_iff.1 ha).1; omega⟩
  case round =>
    obtain ⟨lo, hi, rfl, rfl, hlh, hhl, hb, h1, h2⟩ := hrel
    have HB : Hid (Below w.heap.size w wr) := hb
    have HI : Hid ((∀ t a, t < lo → l[t]? = some a → a.1 < x) ∧ (∀ t a, hi ≤ t → l[t]? = some a → x ≤ a.1)) := ⟨h1, h2⟩
    clear hb h1 h2
    by_cases hlt : lo < hi
    · have hm1 : lo ≤ (lo + hi) / 2 ∧ (lo + hi) / 2 < hi := by omega
      obtain ⟨a, ha⟩ : ∃ a, l[(lo + hi) / 2]? = some a := ⟨l[(lo + hi) / 2]'(by omega), List.getElem?_eq_getElem _⟩
      obtain ⟨b, off, rfl, bl, c0, c1, c2⟩ := (HL.out.1.keep HB.out).at ha
      have HA : Hid (l[(lo + hi) / 2]? = some a) := ha
      have HC : Hid (∀ wx, Calls Tryz.prog 83 #[.agg #[.int .i64 a.1, .int .u64 a.2.1, .int .i64 a.2.2], .int .i64 x] wx fun e w' => e = .returned (.int .i64 (cmpI a.1 x)) ∧ Below wx.heap.size wx w') := fun wx => find1_calls a x wx
      obtain ⟨a0, a1, a2⟩ := a
      simp only at c0 c1 c2 HC
      clear ha
      go_wp2_with fail
      refine (HC.out wr).mono ?_
      rintro e w1 ⟨rfl, hb⟩
      have H1 : Hid (Below w.heap.size w w1) := btr' HB.out hb
      clear hb c0 c1 c2 bl
      by_cases hax : a0 < x
      · have f1 : cmpI a0 x = -1 := if_pos hax
        have HN : Hid (∀ t a, t < (lo + hi) / 2 + 1 → l[t]? = some a → a.1 < x) := fun t a ht hta => by
          rcases Nat.lt_or_ge t ((lo + hi) / 2) with h | h
          · have := HL.out.2.lt hta HA.out h
            simp only at this
            omega
          · obtain rfl : t = (lo + hi) / 2 := by omega
            rw [HA.out] at hta
            cases hta
            exact hax
        go_wp2
        go_roundw
        case rel => exact ⟨(lo + hi) / 2 + 1, hi, by rw [show ((lo : Int) + (hi : Int)) / 2 + 1 = (((lo + hi) / 2 + 1 : Nat) : Int) by omega], rfl, by omega, hhl, H1.out, HN.out, HI.out.2⟩
        case measure => simp [intOf]; omega
      · have f1 : ¬ cmpI a0 x < 0 := by
          unfold cmpI
          rw [if_neg hax]
          split <;> omega
        have HN : Hid (∀ t a, (lo + hi) / 2 ≤ t → l[t]? = some a → x ≤ a.1) := fun t a ht hta => by
          rcases Nat.lt_or_ge ((lo + hi) / 2) t with h | h
          · have := HL.out.2.lt HA.out hta h
            simp only at this
            omega
          · obtain rfl : t = (lo + hi) / 2 := by omega
            rw [HA.out] at hta
            cases hta
            simp only
            omega
        go_wp2
        go_roundw
        case rel => exact ⟨lo, (lo + hi) / 2, rfl, by rw [show ((lo : Int) + (hi : Int)) / 2 = (((lo + hi) / 2 : Nat) : Int) by omega], by omega, by omega, H1.out, HI.out.1, HN.out⟩
        case measure => simp [intOf]; omega
    · obtain rfl : lo = hi := by omega
      have HLO : Hid (lowH l x = lo ∧ hasH l x = (match l[lo]? with | some a => a.1 == x | none => false)) := ⟨countP_at _ l lo hhl (fun t a ht hta => decide_eq_true (HI.out.1 t a ht hta)) (fun t a ht hta => decide_eq_false (by have := HI.out.2 t a ht hta; omega)), hasH_at HI.out.1 HI.out.2 HL.out.2⟩
      by_cases hlt2 : lo < l.length
      · obtain ⟨a, ha⟩ : ∃ a, l[lo]? = some a := ⟨l[lo]'hlt2, List.getElem?_eq_getElem _⟩
        obtain ⟨b, off, rfl, bl, c0, c1, c2⟩ := (HL.out.1.keep HB.out).at ha
        have HC : Hid (∀ wx, Calls Tryz.prog 83 #[.agg #[.int .i64 a.1, .int .u64 a.2.1, .int .i64 a.2.2], .int .i64 x] wx fun e w' => e = .returned (.int .i64 (cmpI a.1 x)) ∧ Below wx.heap.size wx w') := fun wx => find1_calls a x wx
        have HH : Hid (hasH l x = (a.1 == x)) := by
          show _ = _
          rw [HLO.out.2, ha]
        have l1 : (lo : Int) < (l.length : Int) := by omega
        have l2 : (0 : Int) ≤ (lo : Int) := by omega
        obtain ⟨a0, a1, a2⟩ := a
        simp only at c0 c1 c2 HC HH
        clear ha
        go_wp2_with fail
        refine (HC.out wr).mono ?_
        rintro e w1 ⟨rfl, hb⟩
        have H1 : Hid (Below w.heap.size w w1) := btr' HB.out hb
        clear hb c0 c1 c2 bl
        by_cases hax : a0 = x
        · have f1 : cmpI a0 x = 0 := by
            unfold cmpI
            rw [if_neg (by omega), if_neg (by omega)]
          go_wp2
          go_ret2
          exact ⟨by rw [hax] at f1; rw [HLO.out.1, HH.out]; simp [hax, f1], H1.out⟩
        · have f0 : ¬ cmpI a0 x = 0 := by
            unfold cmpI
            split
            · omega
            · split <;> omega
          have f1 : (cmpI a0 x == 0) = false := beq_eq_false_iff_ne.2 f0
          have f2 : decide (cmpI a0 x = 0) = false := decide_eq_false f0
          go_wp2
          go_ret2
          exact ⟨by rw [HLO.out.1, HH.out]; simp [hax], H1.out⟩
      · have HH : Hid (hasH l x = false) := by
          show _ = _
          rw [HLO.out.2, List.getElem?_eq_none (by omega)]
        have l1 : ¬ (lo : Int) < (l.length : Int) := by omega
        have l2 : decide ((lo : Int) < (l.length : Int)) = false := decide_eq_false l1
        have l3 : decide (lo < l.length) = false := decide_eq_false hlt2
        go_wp2
        go_ret2
        exact ⟨by rw [HLO.out.1, HH.out]; rfl, HB.out⟩
end Go.Proofs.YtbkclhaonbjobaaGreat
