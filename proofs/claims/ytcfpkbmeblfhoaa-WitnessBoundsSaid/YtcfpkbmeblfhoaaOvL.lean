/- slices.Insert whole; a row's find. -/
import Derived.Test.YtcfpkbmeblfhoaaOvK
import Derived.Maps.AppendAt
namespace Go.Proofs.Ytcfpkbmeblfhoaa
open Go.RowKit Go.Extern Go.Sort

attribute [local go_sem] Oper.semAt_some

/-- append of halves onto a row of one's own: where it stands then. -/
theorem wpList_append_hsa {w : World} {ops : Array Oper} {rest : List Oper} {o : Oper} {a : Act} {Q : Exit → Act → World → Prop} (hgd : o.guard = none) (s x : Operand)
    (ho : o.op = .call { callee := .builtin .append, args := #[s, x], argTypes := #[52, 52] })
    (base : Nat) (v : Value) (L : List (Int × Int × Int)) (hs : a.eval s = v) (hown : w.ownsRow base 57 3 v L.length (flatH L))
    (ad : Addr) (ac : Nat) (xs : List (Int × Int × Int)) (hx : a.eval x = .slice (some ad) xs.length ac) (hl : HasHs w (.slice (some ad) xs.length ac) xs)
    (hlen : L.length + xs.length ≤ 1048576) (hbase : base ≤ w.heap.size)
    (h : ∀ v' w', w'.ownsRow base 57 3 v' (L ++ xs).length (flatH (L ++ xs)) → w.grownBy w' v.ownBlock → (∀ k, v'.ownBlock = some k → v.ownBlock = some k ∨ w.heap.size ≤ k) → wpList Try.prog ops Q rest (a.put o.dst v') w') : wpList Try.prog ops Q (o :: rest) a w := by
  obtain ⟨i0, hi, hz0, hz1, hz2⟩ : ∃ i, Try.prog.info? 57 = some i ∧ i.zero = some (.agg #[.int .i64 0, .int .u64 0, .int .i64 0]) ∧ i.size = 3 ∧ i.bytes = 24 := by
    have h := Try.infoH
    cases hi : Try.prog.info? 57 with
    | none => rw [hi] at h; cases h
    | some i => rw [hi] at h; simp at h; exact ⟨i, rfl, h.1, h.2.1, h.2.2⟩
  refine wpList_append_own_at _ hgd s x 52 ho base 57 i0 _ 3 24 Try.underlying52 hi hz0 hz1 hz2 rfl (by decide) v L.length (flatH L) hs hown ad xs.length ac (flatH xs) hx (flatH_len xs) (flatH_at hl) (flatH_one xs) (by unfold maxLen; omega) (by omega) hbase ?_
  intro v' w' h1 h2 _ h4
  exact h v' w' (by rw [List.length_append, flatH_append]; exact h1) h2 (fun k hk => by
    rcases h4 with h4 | h4
    · exact Or.inl (h4 ▸ hk)
    · rw [h4] at hk
      cases hk
      exact Or.inr (Nat.le_refl _))

theorem hs_cells {w : World} {vb : Nat} {h : H3} {T : TypeId} (hv : w.heap[vb]? = some (.cells (hC h).toArray T (0, 0))) : HasHs w (.slice (some ⟨vb, 0, none⟩) 1 1) [h] := by
  refine ⟨_, _, rfl, fun j x hj => ?_⟩
  cases j with
  | zero =>
    simp at hj
    subst hj
    exact ⟨_, 0, rfl, lt_of_get hv, by simp [World.cell?, hv, hC], by simp [World.cell?, hv, hC], by simp [World.cell?, hv, hC]⟩
  | succ j => simp at hj
end Go.Proofs.Ytcfpkbmeblfhoaa
