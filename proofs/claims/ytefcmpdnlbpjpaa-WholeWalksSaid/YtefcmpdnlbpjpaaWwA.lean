/- What WholeWalks calls at its beginning: small, the example of two nodes; an append of numbers, whatever is appended. -/
import Derived.Test.YtefcmpdnlbpjpaaWwP
import Derived.Test.YtefcmpdnlbpjpaaWjF
namespace Go.Proofs.Ytefcmpdnlbpjpaa
open Go.RowKit Go.Extern

attribute [local go_sem] Oper.semAt_some

set_option maxHeartbeats 1000000 in
theorem small_calls (N : Int) (ao : Option Addr) (cap : Nat) (xs : List (Int × Int × Int)) (w : World) (hX : HasArcs w (.slice ao xs.length cap) xs) (hm : xs.length ≤ maxLen) :
    Calls Try.prog 6 #[.agg #[.int .i64 N, .slice ao xs.length cap], .int .i64 10] w fun e w' => e = .returned (.bool (fewB N xs 10 && decide (xs.length ≤ 200))) ∧ Below w.heap.size w w' := by
  obtain ⟨W0, hW0⟩ : ∃ W0, w.alloc (.cells #[.int .i64 N, .slice ao xs.length cap] 24) = W0 := ⟨_, rfl⟩
  have HW0 : Hid (w.alloc (.cells #[.int .i64 N, .slice ao xs.length cap] 24) = W0) := hW0
  have hB0 : Below w.heap.size w W0 := by rw [← hW0]; exact (Below.refl _ w).alloc (Nat.le_refl _) _
  have hbx : W0.heap[w.heap.size]? = some (.cells #[.int .i64 N, .slice ao xs.length cap] 24) := by rw [← hW0]; exact heap_new _ _
  have HFW : Hid (Calls Try.prog 20 #[.agg #[.int .i64 N, .slice ao xs.length cap], .int .i64 10] W0 fun e w' => e = .returned (.bool (fewB N xs 10)) ∧ Below W0.heap.size W0 w') := few_calls N ao cap xs 10 W0 (hX.keep hB0) hm
  have HB0 : Hid (Below w.heap.size w W0) := hB0
  have HK : Hid (∀ wx, Below W0.heap.size W0 wx → wx.heap[w.heap.size]? = some (.cells #[.int .i64 N, .slice ao xs.length cap] 24)) := fun wx hx => (hx.block _ (lt_of_get hbx)).trans hbx
  obtain ⟨g0, g1, _, _⟩ := cell_two hbx
  have gs := lt_of_get hbx
  clear hW0 hB0 hbx hX
  generalize fewB N xs 10 = fb at *
  go_enter Try.func6, Try.ntmps6
  go_upto_region 1 with fail
  rw [HW0.out]
  go_wp2_with fail
  refine HFW.out.mono ?_
  rintro e w1 ⟨rfl, hb⟩
  have H1 : Hid (Below w.heap.size w w1) := btr HB0.out hb
  clear g0 g1 gs
  obtain ⟨g0, g1, _, _⟩ := cell_two (HK.out w1 hb)
  have gs := lt_of_get (HK.out w1 hb)
  clear hb
  cases fb with
  | false =>
    go_wp2
    go_ret
    exact ⟨rfl, H1.out⟩
  | true =>
    by_cases h : xs.length ≤ 200
    · have h1 : (xs.length : Int) ≤ 200 := by omega
      have h2 : decide (xs.length ≤ 200) = true := decide_eq_true h
      go_wp2
      go_ret
      exact ⟨by simp [h], H1.out⟩
    · have h1 : ¬ (xs.length : Int) ≤ 200 := by omega
      have h2 : decide (xs.length ≤ 200) = false := decide_eq_false h
      go_wp2
      go_ret
      exact ⟨by simp [h]; try omega, H1.out⟩
theorem arcs_one (w : World) (a : Int × Int × Int) (T : TypeId) : HasArcs (w.alloc (.cells #[.int .i64 a.1, .int .i64 a.2.1, .int .i64 a.2.2] T)) (.slice (some ⟨w.heap.size, 0, none⟩) 1 1) [a] := by
  have h := heap_new w (.cells #[.int .i64 a.1, .int .i64 a.2.1, .int .i64 a.2.2] T)
  generalize w.alloc (.cells #[.int .i64 a.1, .int .i64 a.2.1, .int .i64 a.2.2] T) = W at h ⊢
  refine ⟨_, _, rfl, fun j x hj => ?_⟩
  cases j with
  | zero =>
    simp at hj
    subst hj
    exact ⟨_, 0, rfl, lt_of_get h, by simp [World.cell?, h], by simp [World.cell?, h], by simp [World.cell?, h]⟩
  | succ j => simp at hj
/-- the example: one arc. -/
def Z2 : List (Int × Int × Int) := [(0, 1, 6)]
theorem good2 : graphErr ((2 : Nat) : Int) Z2 = (0, []) := by decide
theorem norm2 : normA Z2 = Z2 := (norm_self _).2 ⟨by unfold Z2; simp, by unfold Z2 RiseA; simp⟩
theorem fine2 : Fine 2 Z2 := by
  have := fine_norm good2
  rwa [norm2] at this
theorem two_build (w : World) : Calls Try.prog 4 #[.agg #[.int .i64 2, .slice (some ⟨w.heap.size, 0, none⟩) 1 1]] (w.alloc (.cells #[.int .i64 0, .int .i64 1, .int .i64 6] 33)) fun e w' => ∃ F T V, e = .returned (.tuple #[.agg #[.slice (some ⟨F, 0, none⟩) 3 3, .slice (some ⟨T, 0, none⟩) 1 1, .slice (some ⟨V, 0, none⟩) 1 1], .nilIface]) ∧ CsrIn w' 2 Z2 (some ⟨F, 0, none⟩) (some ⟨T, 0, none⟩) (some ⟨V, 0, none⟩) 3 1 1 ∧ Below w.heap.size w w' := by
  have h := build_csr (n := 2) (xs := Z2) (arcs_one w (0, 1, 6) 33) good2
  rw [norm2] at h
  refine h.mono ?_
  rintro e w' ⟨F, T, V, he, hC, hb⟩
  exact ⟨F, T, V, he, hC, btr (below1 _ _) hb⟩
theorem two_length (F T V : Nat) (w : World) (h : CsrIn w 2 Z2 (some ⟨F, 0, none⟩) (some ⟨T, 0, none⟩) (some ⟨V, 0, none⟩) 3 1 1) : Calls Try.prog 5 #[.agg #[.slice (some ⟨F, 0, none⟩) 3 3, .slice (some ⟨T, 0, none⟩) 1 1, .slice (some ⟨V, 0, none⟩) 1 1], .slice (some ⟨w.heap.size, 0, none⟩) 2 2] (w.alloc (.cells #[.int .i64 0, .int .i64 1] 3)) fun e w' => e = .returned (.tuple #[.int .u64 6, .nilIface]) ∧ Below w.heap.size w w' := by
  have hn := heap_new w (.cells #[.int .i64 0, .int .i64 1] 3)
  have hal := below1 w (.cells #[.int .i64 0, .int .i64 1] 3)
  have hI : HasInts (w.alloc (.cells #[.int .i64 0, .int .i64 1] 3)) (.slice (some ⟨w.heap.size, 0, none⟩) 2 2) [0, 1] := by
    generalize w.alloc (.cells #[.int .i64 0, .int .i64 1] 3) = W at hn ⊢
    refine ⟨_, _, rfl, fun j a hj => ⟨w.heap.size, 0, rfl, lt_of_get hn, ?_⟩⟩
    rcases j with _ | _ | j
    · cases hj; simp [World.cell?, hn]
    · cases hj; simp [World.cell?, hn]
    · simp at hj
  refine (len_walk (n := 2) (zs := Z2) (some ⟨F, 0, none⟩) (some ⟨T, 0, none⟩) (some ⟨V, 0, none⟩) 3 1 1 _ fine2 (h.keep hal) (by decide) (some ⟨w.heap.size, 0, none⟩) 2 2 [0, 1] [6] rfl hI (by omega) (by omega) (fun v hv => by simp at hv; omega) (by simp) ⟨rfl, fun i r hi => ?_⟩).mono ?_
  · cases i with
    | zero =>
      cases hi
      exact ⟨0, 1, rfl, rfl, by decide⟩
    | succ i => simp at hi
  · rintro e w' ⟨he, hb⟩
    exact ⟨he, btr hal hb⟩
theorem wpList_append_ints3 {w : World} {ops : Array Oper} {rest : List Oper} {o : Oper} {a : Act} {Q : Exit → Act → World → Prop} (hgd : o.guard = none) (s x : Operand)
    (ho : o.op = .call { callee := .builtin .append, args := #[s, x], argTypes := #[25, 25] })
    (base : Nat) (v : Value) (L : List Int) (hs : a.eval s = v) (hown : w.ownsRow base 3 1 v L.length (iv L))
    (ao : Option Addr) (ac : Nat) (xs : List Int) (hx : a.eval x = .slice ao xs.length ac) (hl : HasInts w (.slice ao xs.length ac) xs) (hno : ao = none → ac = 0)
    (hlen : (L.length + xs.length) * 8 ≤ 140737488355328) (hbase : base ≤ w.heap.size)
    (h : ∀ v' w', w'.ownsRow base 3 1 v' (L ++ xs).length (iv (L ++ xs)) → w.grownBy w' v.ownBlock → wpList Try.prog ops Q rest (a.put o.dst v') w') : wpList Try.prog ops Q (o :: rest) a w := by
  obtain ⟨i0, hi, hz0, hz1, hz2⟩ : ∃ i, Try.prog.info? 3 = some i ∧ i.zero = some (.int .i64 0) ∧ i.size = 1 ∧ i.bytes = 8 := by
    have h := infoJ
    cases hi : Try.prog.info? 3 with
    | none => rw [hi] at h; cases h
    | some i => rw [hi] at h; simp at h; exact ⟨i, rfl, h.1, h.2.1, h.2.2⟩
  cases ao with
  | none =>
    have hc := hno rfl
    subst hc
    have hx0 : xs = [] := by
      cases xs with
      | nil => rfl
      | cons q r => obtain ⟨b, off, e, _⟩ := hl.at (k := 0) (a := q) rfl; cases e
    subst hx0
    refine wpList_append_own_none hgd s x 25 ho base 3 i0 1 Try.underlying25 hi v L.length (iv L) hs hown hx ?_
    exact h v w (by simpa using hown) ⟨rfl, rfl, rfl, Nat.le_refl _, fun _ _ _ => rfl⟩
  | some ad =>
    have hcell : ∀ j u, (iv xs)[j]? = some u → w.cell? (ad.add j) = some u := by
      cases xs with
      | nil => intro j u hj; simp [iv] at hj
      | cons q r =>
        obtain ⟨b, off, e, _⟩ := hl.at (k := 0) (a := q) rfl
        cases e
        exact ints_cells hl
    refine wpList_append_own _ hgd s x 25 ho base 3 i0 _ 1 8 Try.underlying25 hi hz0 hz1 hz2 rfl (by decide) v L.length (iv L) hs hown ad xs.length ac (iv xs) hx (iv_len xs) hcell (by intro u hu; simp [iv] at hu; obtain ⟨a, _, rfl⟩ := hu; rfl) (by unfold maxLen; omega) (by omega) hbase ?_
    intro v' w' h1 h2 _
    exact h v' w' (by rw [List.length_append, iv_append]; exact h1) h2
/-- three numbers in a block of their own. -/
theorem own_three (w : World) (a b c : Int) : (w.alloc (.cells #[.int .i64 a, .int .i64 b, .int .i64 c] 3)).ownsRow w.heap.size 3 1 (.slice (some ⟨w.heap.size, 0, none⟩) 3 3) [a, b, c].length (iv [a, b, c]) :=
  ⟨rfl, .inr ⟨w.heap.size, 3, _, rfl, Nat.le_refl _, heap_new _ _, Nat.le_refl _, by unfold maxLen; omega, rfl, rfl⟩⟩
end Go.Proofs.Ytefcmpdnlbpjpaa
