/- normal.Is, whatever it is handed. -/
import Derived.Test.YtbfopkhdngfanaaIsNo
namespace Go.Proofs.Ytbfopkhdngfanaa
open Go.RowKit Go.Extern

attribute [local go_sem] Oper.semAt_some

theorem rise_of_next : ∀ (l : List (Int × Int × Int)), (∀ i a b, l[i]? = some a → l[i + 1]? = some b → lessA a b) → RiseA l
  | [], _ => List.Pairwise.nil
  | [x], _ => List.pairwise_singleton _ _
  | x :: y :: r, h => by
    have ih := rise_of_next (y :: r) (fun i a b ha hb => h (i + 1) a b (by simpa using ha) (by simpa using hb))
    have hxy := h 0 x y rfl rfl
    refine List.pairwise_cons.2 ⟨fun z hz => ?_, ih⟩
    rcases List.mem_cons.1 hz with rfl | hz
    · exact hxy
    · exact less_trans hxy ((List.pairwise_cons.1 ih).1 z hz)
theorem next_of_rise : ∀ {l : List (Int × Int × Int)}, RiseA l → ∀ i a b, l[i]? = some a → l[i + 1]? = some b → lessA a b
  | [], _, i, a, b, ha, _ => by simp at ha
  | x :: r, h, 0, a, b, ha, hb => by
    simp at ha
    subst ha
    exact (List.pairwise_cons.1 h).1 b (List.mem_of_getElem? (by simpa using hb))
  | x :: r, h, i + 1, a, b, ha, hb => next_of_rise (List.pairwise_cons.1 h).2 i a b (by simpa using ha) (by simpa using hb)
theorem good_or_bad (xs : List (Int × Int × Int)) : ∀ n, n ≤ xs.length → GoodTo xs n ∨ ∃ m a, GoodTo xs m ∧ xs[m]? = some a ∧ (a.1 = a.2.1 ∨ (a.1 ≠ a.2.1 ∧ ∃ j p, m = j + 1 ∧ xs[j]? = some p ∧ 0 ≤ endsI p a))
  | 0, _ => Or.inl ⟨fun i a h => by omega, fun i a b h => by omega⟩
  | n + 1, hn => by
    rcases good_or_bad xs n (by omega) with h | h
    · obtain ⟨a, ha⟩ : ∃ a, xs[n]? = some a := ⟨xs[n], List.getElem?_eq_getElem (by omega)⟩
      by_cases hl : a.1 = a.2.1
      · exact Or.inr ⟨n, a, h, ha, Or.inl hl⟩
      · by_cases hb : ∃ j p, n = j + 1 ∧ xs[j]? = some p ∧ 0 ≤ endsI p a
        · exact Or.inr ⟨n, a, h, ha, Or.inr ⟨hl, hb⟩⟩
        · refine Or.inl ⟨fun i c hi hc => ?_, fun i c e hi hc he => ?_⟩
          · by_cases e : i = n
            · subst e
              obtain rfl : a = c := Option.some.inj (ha.symm.trans hc)
              simpa using hl
            · exact h.1 i c (by omega) hc
          · by_cases ei : i + 1 = n
            · subst ei
              obtain rfl : a = e := Option.some.inj (ha.symm.trans he)
              have : ¬ 0 ≤ endsI c a := fun h0 => hb ⟨i, c, rfl, hc, h0⟩
              omega
            · exact h.2 i c e (by omega) hc he
    · exact Or.inr h
theorem norm_of_good {xs : List (Int × Int × Int)} (h : GoodTo xs xs.length) : normA xs = xs := by
  refine (norm_self xs).2 ⟨fun a ha => ?_, rise_of_next xs fun i a b ha hb => (endsI_neg a b).1 (h.2 i a b (List.getElem?_eq_some_iff.1 hb).1 ha hb)⟩
  obtain ⟨i, hi, e⟩ := List.getElem_of_mem ha
  have := h.1 i a hi (by rw [List.getElem?_eq_getElem hi, e])
  simpa using this

set_option maxRecDepth 100000 in
set_option maxHeartbeats 1000000 in
theorem is_all (N : Int) (ao : Option Addr) (cap : Nat) (xs : List (Int × Int × Int)) (w : World) (hl : HasArcs w (.slice ao xs.length cap) xs) (hm : xs.length ≤ maxLen) :
    Calls Try.prog 10 #[.agg #[.int .i64 N, .slice ao xs.length cap]] w fun e w' => ∃ v, e = .returned (.tuple #[.bool (decide (graphErr N xs = (0, []) ∧ normA xs = xs)), v]) ∧ IsTold w' (graphErr N xs) v ∧ Below w.heap.size w w' := by
  by_cases hgood : graphErr N xs = (0, [])
  · by_cases hn : normA xs = xs
    · have h := (norm_self xs).1 hn
      refine (is_yes N ao cap xs w hl hgood hm ⟨fun a ha => by simpa using h.1 a ha, fun i a b ha hb => (endsI_neg a b).2 (next_of_rise h.2 i a b ha hb)⟩).mono ?_
      rintro e w' ⟨rfl, hB⟩
      exact ⟨.nilIface, by rw [decide_eq_true ⟨hgood, hn⟩], Or.inl ⟨hgood, rfl⟩, hB⟩
    · rcases good_or_bad xs xs.length (Nat.le_refl _) with h | ⟨m, a, h1, h2, h3⟩
      · exact absurd (norm_of_good h) hn
      · refine (is_no N ao cap xs w hl hgood hm m h1 a h2 h3).mono ?_
        rintro e w' ⟨rfl, hB⟩
        exact ⟨.nilIface, by rw [decide_eq_false (fun h => hn h.2)], Or.inl ⟨hgood, rfl⟩, hB⟩
  rw [decide_eq_false (fun h => hgood h.1)]
  obtain ⟨W0, hW0⟩ : ∃ W0, w.alloc (.cells #[.int .i64 N, .slice ao xs.length cap] 24) = W0 := ⟨_, rfl⟩
  have hB0 : Below w.heap.size w W0 := by rw [← hW0]; exact (Below.refl _ w).alloc (Nat.le_refl _) _
  have HW0 : Hid (w.alloc (.cells #[.int .i64 N, .slice ao xs.length cap] 24) = W0) := hW0
  have HB0 : Hid (Below w.heap.size w W0) := hB0
  have HCK : Hid (Calls Try.prog 17 #[.agg #[.int .i64 N, .slice ao xs.length cap]] W0 fun e w' => ∃ v, e = .returned v ∧ IsTold w' (graphErr N xs) v ∧ Below W0.heap.size W0 w') := check_calls N ao cap xs W0 (hl.keep hB0) hm
  have HGN : Hid (graphErr N xs ≠ (0, [])) := hgood
  clear hl hB0 hW0 hgood
  go_enter Try.func10, Try.ntmps10
  go_wp2_with fail
  rw [HW0.out]
  refine HCK.out.mono ?_
  rintro e w1 ⟨v, rfl, ht1, hb1⟩
  have HT1 : Hid (IsTold w1 (graphErr N xs) v) := ht1
  have HB1 : Hid (Below w.heap.size w w1) := HB0.out.trans (hb1.mono HB0.out.size)
  clear hb1
  obtain ⟨T, x, hsh⟩ : ∃ T x, v = .iface T x := by
    rcases ht1 with ⟨hg, _⟩ | ⟨hg, hv⟩
    · exact absurd hg HGN.out
    · cases hps : (graphErr N xs).2 with
      | nil => rw [hps] at hv; exact ⟨_, _, hv⟩
      | cons p r => rw [hps] at hv; obtain ⟨b, u, e, _⟩ := hv; exact ⟨_, _, e⟩
  subst hsh
  clear ht1
  go_wp2
  exact bodyPost_ret (v := .tuple #[.bool false, .iface T x]) (by simp [results, Try.results10, go_sem]) rfl ⟨_, rfl, HT1.out, HB1.out⟩
end Go.Proofs.Ytbfopkhdngfanaa
