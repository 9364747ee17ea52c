/- slices.Insert whole; a row's find. -/
import Derived.Test.YtnclegldhafaeaaGreatDoorOvK
import Derived.Maps.AppendAt
namespace Go.Proofs.YtnclegldhafaeaaGreatDoor
open Go.RowKit Go.Extern Go.Sort

attribute [local go_sem] Oper.semAt_some

/-- append of halves onto a row of one's own: where it stands then. -/
theorem wpList_append_hsa {w : World} {ops : Array Oper} {rest : List Oper} {o : Oper} {a : Act} {Q : Exit → Act → World → Prop} (hgd : o.guard = none) (s x : Operand)
    (ho : o.op = .call { callee := .builtin .append, args := #[s, x], argTypes := #[49, 49] })
    (base : Nat) (v : Value) (L : List (Int × Int × Int)) (hs : a.eval s = v) (hown : w.ownsRow base 71 3 v L.length (flatH L))
    (ad : Addr) (ac : Nat) (xs : List (Int × Int × Int)) (hx : a.eval x = .slice (some ad) xs.length ac) (hl : HasHs w (.slice (some ad) xs.length ac) xs)
    (hlen : L.length + xs.length ≤ 1048576) (hbase : base ≤ w.heap.size)
    (h : ∀ v' w', w'.ownsRow base 71 3 v' (L ++ xs).length (flatH (L ++ xs)) → w.grownBy w' v.ownBlock → (∀ k, v'.ownBlock = some k → v.ownBlock = some k ∨ w.heap.size ≤ k) → wpList Tryz.prog ops Q rest (a.put o.dst v') w') : wpList Tryz.prog ops Q (o :: rest) a w := by
  obtain ⟨i0, hi, hz0, hz1, hz2⟩ : ∃ i, Tryz.prog.info? 71 = some i ∧ i.zero = some (.agg #[.int .i64 0, .int .u64 0, .int .i64 0]) ∧ i.size = 3 ∧ i.bytes = 24 := by
    have h := Tryz.infoH
    cases hi : Tryz.prog.info? 71 with
    | none => rw [hi] at h; cases h
    | some i => rw [hi] at h; simp at h; exact ⟨i, rfl, h.1, h.2.1, h.2.2⟩
  refine wpList_append_own_at _ hgd s x 49 ho base 71 i0 _ 3 24 Tryz.underlying49 hi hz0 hz1 hz2 rfl (by decide) v L.length (flatH L) hs hown ad xs.length ac (flatH xs) hx (flatH_len xs) (flatH_at hl) (flatH_one xs) (by unfold maxLen; omega) (by omega) hbase ?_
  intro v' w' h1 h2 _ h4
  exact h v' w' (by rw [List.length_append, flatH_append]; exact h1) h2 (fun k hk => by
    rcases h4 with h4 | h4
    · exact Or.inl (h4 ▸ hk)
    · rw [h4] at hk
      cases hk
      exact Or.inr (Nat.le_refl _))

set_option maxRecDepth 100000 in
set_option maxHeartbeats 4000000 in
theorem insert_enda (B : Nat) (v : Value) (l : List H3) (h : H3) (vb : Nat) (w : World) (ho : w.ownsRow B 71 3 v l.length (flatH l)) (hB : B ≤ w.heap.size) (hv : HasHs w (.slice (some ⟨vb, 0, none⟩) 1 1) [h]) (hl : l.length ≤ 262144) :
    Calls Tryz.prog 61 #[v, .int .i64 (l.length : Int), .slice (some ⟨vb, 0, none⟩) 1 1] w fun e w' => ∃ v', e = .returned v' ∧ w'.ownsRow B 71 3 v' (l.length + 1) (flatH (insH l l.length h)) ∧ w.grownBy w' v.ownBlock ∧ (∀ k, v'.ownBlock = some k → v.ownBlock = some k ∨ w.heap.size ≤ k) := by
  have e1 : insH l l.length h = l ++ [h] := by unfold insH; simp
  obtain ⟨ao, c, rfl⟩ := rowH_slice ho
  obtain ⟨bo, bc, hend⟩ := hsl_end ao l.length c
  have HO : Hid (w.ownsRow B 71 3 (.slice ao l.length c) l.length (flatH l) ∧ B ≤ w.heap.size ∧ HasHs w (.slice (some ⟨vb, 0, none⟩) 1 1) [h]) := ⟨ho, hB, hv⟩
  rw [e1]
  clear ho hv hB e1
  go_enter Tryz.func61, Tryz.ntmps61
  go_wp2_with (at_builtin; refine wpList_append_hsa rfl _ _ rfl B (.slice ao l.length c) l rfl HO.out.1 ⟨vb, 0, none⟩ 1 [h] rfl HO.out.2.2 (by simp only [List.length_cons, List.length_nil]; omega) HO.out.2.1 ?_; intro v' w' hown hgr hfr; have H1 : Hid (w'.ownsRow B 71 3 v' (l ++ [h]).length (flatH (l ++ [h])) ∧ w.grownBy w' (Value.slice ao l.length c).ownBlock ∧ (∀ k, v'.ownBlock = some k → (Value.slice ao l.length c).ownBlock = some k ∨ w.heap.size ≤ k)) := ⟨hown, hgr, hfr⟩; clear hown hgr hfr)
  go_ret
  exact ⟨v', rfl, by have := H1.out.1; rw [List.length_append] at this; exact this, H1.out.2⟩

theorem hs_cells {w : World} {vb : Nat} {h : H3} {T : TypeId} (hv : w.heap[vb]? = some (.cells (hC h).toArray T (0, 0))) : HasHs w (.slice (some ⟨vb, 0, none⟩) 1 1) [h] := by
  refine ⟨_, _, rfl, fun j x hj => ?_⟩
  cases j with
  | zero =>
    simp at hj
    subst hj
    exact ⟨_, 0, rfl, lt_of_get hv, by simp [World.cell?, hv, hC], by simp [World.cell?, hv, hC], by simp [World.cell?, hv, hC]⟩
  | succ j => simp at hj
theorem insert_calls (B : Nat) (v : Value) (l : List H3) (i : Nat) (h : H3) (vb : Nat) (w : World) (ho : w.ownsRow B 71 3 v l.length (flatH l)) (hB : B ≤ w.heap.size) (hi : i ≤ l.length) (hv : w.heap[vb]? = some (.cells (hC h).toArray 71 (0, 0))) (hne : v.ownBlock ≠ some vb) (hl : l.length ≤ 262144) :
    Calls Tryz.prog 61 #[v, .int .i64 (i : Int), .slice (some ⟨vb, 0, none⟩) 1 1] w fun e w' => ∃ v', e = .returned v' ∧ w'.ownsRow B 71 3 v' (l.length + 1) (flatH (insH l i h)) ∧ w.grownBy w' v.ownBlock ∧ (∀ k, v'.ownBlock = some k → v.ownBlock = some k ∨ w.heap.size ≤ k) := by
  rcases Nat.lt_or_ge i l.length with hi' | hi'
  · rcases ho.2 with ⟨_, h0⟩ | ⟨g, c, cur, rfl, hBg, hg, hnc, hcm, hsz, htk⟩
    · omega
    · have hgv : vb ≠ g := fun e => hne (by rw [e]; rfl)
      rcases Nat.lt_or_ge c (l.length + 1) with hr | hr
      · refine (insert_grow w.heap.size g c l.length i cur l h vb w rfl hi' hr hnc hl hg hsz htk (Nat.le_refl _) hv).mono ?_
        rintro e w' ⟨v', rfl, h1, h2⟩
        refine ⟨v', rfl, ⟨h1.1, ?_⟩, h2.but _, fun k hk => Or.inr (h1.lt k hk).1⟩
        rcases h1.2 with h | ⟨g', c', cur', e', hb', r⟩
        · exact Or.inl h
        · exact Or.inr ⟨g', c', cur', e', Nat.le_trans hB hb', r⟩
      · refine (insert_shift B g c l.length i cur l h vb w rfl hi' hr hcm hBg hg hsz htk hv hgv).mono ?_
        rintro e w' ⟨rfl, h1, h2⟩
        exact ⟨_, rfl, h1, h2, fun k hk => Or.inl hk⟩
  · obtain rfl : i = l.length := by omega
    exact insert_enda B v l h vb w ho hB (hs_cells hv) hl

set_option maxHeartbeats 1000000 in
theorem find_calls (rb ro : Nat) (v : Value) (l : List H3) (x : Int) (w : World) (hc : w.cell? ⟨rb, ro, none⟩ = some v) (h : HasHs w v l) (hr : RiseH l) (hn : l.length < 4611686018427387904) :
    Calls Tryz.prog 58 #[.pointer (some ⟨rb, ro, none⟩), .int .i64 x] w fun e w' => e = .returned (.tuple #[.int .i64 (lowH l x : Nat), .bool (hasH l x)]) ∧ Below w.heap.size w w' := by
  obtain ⟨ao, cap, rfl, _⟩ := id h
  have HC : Hid (type_of% (bsf_calls ao cap l x w h hr hn)) := bsf_calls ao cap l x w h hr hn
  clear h hr
  go_enter Tryz.func58, Tryz.ntmps58
  go_wp2_with fail
  refine HC.out.mono ?_
  rintro e w1 ⟨rfl, hb⟩
  go_wp2
  go_ret2
  exact ⟨rfl, hb⟩
end Go.Proofs.YtnclegldhafaeaaGreatDoor
