/- The queue's Swap, walked; its Push and Pop. -/
import Derived.Test.YtcfpkbmeblfhoaaWtR
import Derived.Deep.DeepAppendRoom
import Derived.Maps.AppendAt
import Derived.Deep.RegionLaw
namespace Go.Proofs.Ytcfpkbmeblfhoaa.Wt
open Go Go.RowKit Go.Extern

attribute [local go_sem] Oper.semAt_some

theorem cell_ofW {w : World} {b o : Nat} {c : Array Value} {t : TypeId} {x : Value} (h : w.heap[b]? = some (.cells c t)) (hx : c[o]? = some x) : w.cell? ⟨b, o, none⟩ = some x := by simp [World.cell?, h, hx]
theorem cell_set_ex {w : World} {g o o' : Nat} {u x : Value} (h : w.cell? ⟨g, o', none⟩ = some x) (hc : ∃ (c : Array Value) (t : TypeId), w.heap[g]? = some (.cells c t)) : ∃ v, (w.setCell ⟨g, o, none⟩ u).cell? ⟨g, o', none⟩ = some v := by
  obtain ⟨c, t, hg⟩ := hc
  have h1 := heap_setCell_sameW (o := o) u hg
  have h2 : c[o']? = some x := by simpa [World.cell?, hg] using h
  obtain ⟨hl, _⟩ := Array.getElem?_eq_some_iff.1 h2
  refine ⟨(c.setIfInBounds o u)[o']'(by simpa using hl), ?_⟩
  simp [World.cell?, h1]
section
variable {w : World} {sb : Nat} {c0 c1 c2 c3 c4 : Value} {Q : List Th} {so : Option Addr} {c : Nat}
set_option maxRecDepth 100000 in
set_option maxHeartbeats 4000000 in
theorem wswap_calls (h : QMem w sb c0 c1 c2 c3 c4 (.slice so Q.length c) Q) {i j : Nat} (hi : i < Q.length) (hj : j < Q.length) :
    Calls Try.prog 101 #[.slice so Q.length c, .int .i64 i, .int .i64 j] w fun e w' => e = .returned (.tuple #[]) ∧ QMem w' sb c0 c1 c2 c3 c4 (.slice so Q.length c) (swL Q i j) ∧ QFr sb (.slice so Q.length c) (.slice so Q.length c) w w' := by
  obtain ⟨a, ha⟩ : ∃ a, Q[i]? = some a := ⟨_, List.getElem?_eq_getElem hi⟩
  obtain ⟨b, hb⟩ : ∃ a, Q[j]? = some a := ⟨_, List.getElem?_eq_getElem hj⟩
  obtain ⟨g, cap, hs, _, _, gl, _, a0, a1, a2, a3⟩ := h.entry ha
  obtain ⟨g', cap', hs', _, _, _, _, b0, b1, b2, b3⟩ := h.entry hb
  injection hs with e1 e2 e3
  subst e1 e3
  injection hs' with e1 e2 e3
  injection e1 with e1
  injection e1 with e1
  subst e1
  have HQ := h.swap i j
  rw [plc_at ha, plc_at hb] at HQ
  have HQ : Hid (type_of% HQ) := HQ
  have i1 : (i : Int) < (Q.length : Int) := by omega
  have i2 : (0 : Int) ≤ (i : Int) := by omega
  have j1 : (j : Int) < (Q.length : Int) := by omega
  have j2 : (0 : Int) ≤ (j : Int) := by omega
  have hcur : ∃ (cu : Array Value) (t : TypeId), w.heap[g]? = some (.cells cu t) := by
    rcases h.row.2 with ⟨e, _⟩ | ⟨g2, _, cur, e, _, hh, _⟩
    · cases e
    · cases e
      exact ⟨_, _, hh⟩
  obtain ⟨v1, z1⟩ := cell_set_ex (o := i * 2) (u := .int .u64 b.1) b0 hcur
  obtain ⟨v2, z2⟩ := cell_set_ex (o := i * 2 + 1) (u := .int .i64 b.2) b1 hcur
  obtain ⟨v3, z3⟩ := cell_set_ex (o := i * 2) (u := .int .u64 b.1) b1 hcur
  obtain ⟨v4, z4⟩ := cell_set_ex (o := i * 2 + 1) (u := .int .i64 b.2) z3 (by obtain ⟨cu, t, hh⟩ := hcur; exact ⟨_, _, heap_setCell_sameW _ hh⟩)
  clear h ha hb hcur z3
  go_enter Try.func101, Try.ntmps101
  go_wp2_with fail
  go_region
  go_wp2
  go_end0
  exact ⟨rfl, HQ.out.1.drew, HQ.out.2.drew⟩
end
theorem Try.infoE : (Try.prog.info? 87).map (fun i => (i.zero, i.size, i.bytes)) = some (some (.agg #[.int .u64 0, .int .i64 0]), 2, 16) := by kernel_rfl
theorem flatE_one (xs : List Th) : ∀ u ∈ flatE xs, u.oneCell' = true := fun u hu => by
  unfold flatE at hu
  obtain ⟨a, _, h⟩ := List.mem_flatMap.1 hu
  simp at h
  rcases h with rfl | rfl <;> rfl
/-- append of one entry onto the queue's row, as one step of a region that draws. -/
theorem step_append_e {w : World} {ops : Array Oper} {o : Oper} {a : Act} {K : Act → World → Prop} {Q : Exit → Act → World → Prop} {E : Prop} (hg : o.guard = none) (s x : Operand)
    (ho : o.op = .call { callee := .builtin .append, args := #[s, x], argTypes := #[80, 80] }) (v : Value) (L : List Th) (hs : a.eval s = v) (hown : w.ownsRow 0 87 2 v L.length (flatE L))
    (ad : Addr) (d y : Int) (hx : a.eval x = .slice (some ad) 1 1) (h0 : w.cell? ad = some (.int .u64 d)) (h1 : w.cell? (ad.add 1) = some (.int .i64 y)) (hlen : L.length + 1 ≤ 8796093022208)
    (h : ∀ v' w', w'.ownsRow 0 87 2 v' (L ++ [(d, y)]).length (flatE (L ++ [(d, y)])) → w.grownBy w' v.ownBlock → (∀ k, v'.ownBlock = some k → v.ownBlock = some k ∨ w.heap.size ≤ k) → K (a.put o.dst v') w') :
    if Region.wanted o (yielded ops a.tmps) = true then Oper.wp Try.prog o a w K Q else E := by
  have hw : Region.wanted o (yielded ops a.tmps) = true := by simp [Region.wanted, hg]
  rw [if_pos hw]
  obtain ⟨i0, hi, hz0, hz1, hz2⟩ : ∃ i, Try.prog.info? 87 = some i ∧ i.zero = some (.agg #[.int .u64 0, .int .i64 0]) ∧ i.size = 2 ∧ i.bytes = 16 := by
    have h := Try.infoE
    cases hi : Try.prog.info? 87 with
    | none => rw [hi] at h; cases h
    | some i => rw [hi] at h; simp at h; exact ⟨i, rfl, h.1, h.2.1, h.2.2⟩
  obtain ⟨v', w', hr, h2, h3, _, h5⟩ := run_append_own_at (P := Try.prog) w 0 80 o.type 87 i0 _ 2 16 Try.underlying80 hi hz0 hz1 hz2 rfl (by decide) v L.length (flatE L) hown ad 1 1 (flatE [(d, y)]) (flatE_len _) (fun j u hj => by
    rcases j with _ | _ | j
    · simp [flatE] at hj; subst hj; simpa [Addr.add] using h0
    · simp [flatE] at hj; subst hj; exact h1
    · simp [flatE] at hj) (flatE_one _) (by unfold maxLen; omega) (by omega) (by omega)
  unfold Oper.wp execOp
  simp only [ho, resolve, invoke, builtin, Sem.run_bind, Sem.run_pure, Result.andThen_ok, List.map_toArray, List.map_cons, List.map_nil, hs, hx, hr]
  exact h v' w' (by rw [List.length_append, flatE_append]; exact h2) h3 (fun k hk => by
    rcases h5 with h5 | h5
    · exact Or.inl (h5 ▸ hk)
    · rw [h5] at hk
      cases hk
      exact Or.inr (Nat.le_refl _))
theorem rowE_slice {w : World} {base m : Nat} {xs : List Value} {v : Value} (h : w.ownsRow base 87 2 v m xs) : ∃ ao cap, v = .slice ao m cap := by
  rcases h.2 with ⟨h, h'⟩ | ⟨g, cap, cur, h, _⟩
  · exact ⟨none, 0, by rw [h']; exact h⟩
  · exact ⟨_, cap, h⟩
theorem QMem.pushed {w W w2 : World} {sb : Nat} {c0 c1 c2 c3 c4 sv v' : Value} {Q Q' : List Th} (h : QMem w sb c0 c1 c2 c3 c4 sv Q) (hb : Below w.heap.size w W) (hr : w2.ownsRow 0 87 2 v' Q'.length (flatE Q')) (hg : W.grownBy w2 sv.ownBlock) (hn : ∀ k, v'.ownBlock = some k → sv.ownBlock = some k ∨ W.heap.size ≤ k) :
    QMem (w2.setCell ⟨sb, 5, none⟩ v') sb c0 c1 c2 c3 c4 v' Q' ∧ QFr sb sv v' w (w2.setCell ⟨sb, 5, none⟩ v') ∧ w2.cell? ⟨sb, 5, none⟩ = some sv ∧ w2.frozen? ⟨sb, 5, none⟩ = false ∧ sb < w2.heap.size := by
  have hs := lt_of_get h.box
  have hz := hb.size
  have h2 : w2.heap[sb]? = some (.cells #[c0, c1, c2, c3, c4, sv] 82) := by rw [hg.block sb (by omega) (fun e => h.hp e.symm), hb.block sb hs]; exact h.box
  have hne : v'.ownBlock ≠ some sb := fun e => by
    rcases hn sb e with h3 | h3
    · exact h.hp h3
    · omega
  have hk : ∀ k, k ≠ sb → (w2.setCell ⟨sb, 5, none⟩ v').heap[k]? = w2.heap[k]? := fun k hk => heap_setCell_other _ _ _ _ hk
  refine ⟨⟨by rw [heap_setCell_sameW _ h2]; rfl, ?_, hne⟩, ⟨hg.os.trans hb.os, hg.tape.trans hb.tape, hg.output.trans hb.output, by have := hg.size; simp; omega, fun k hkl h1 h3 => ?_, fun k hkl e => ?_⟩, by simp [World.cell?, h2], by simp [World.frozen?, h2], lt_of_get h2⟩
  · obtain ⟨r1, r2⟩ := hr
    refine ⟨r1, ?_⟩
    rcases r2 with r2 | ⟨g, cap, cur, e, hb', hh, r⟩
    · exact Or.inl r2
    · exact Or.inr ⟨g, cap, cur, e, hb', (hk g (fun e' => hne (by rw [e, e']; rfl))).trans hh, r⟩
  · rw [hk k h1, hg.block k (by omega) h3, hb.block k hkl]
  · rcases hn k e with h3 | h3
    · exact h3
    · omega
set_option maxRecDepth 100000 in
set_option maxHeartbeats 4000000 in
theorem wpush_calls {w : World} {sb : Nat} {c0 c1 c2 c3 c4 sv : Value} {Q : List Th} (h : QMem w sb c0 c1 c2 c3 c4 sv Q) (d y : Int) (hl : Q.length ≤ 1048576) :
    Calls Try.prog 104 #[.pointer (some ⟨sb, 5, none⟩), .iface 87 (.agg #[.int .u64 d, .int .i64 y])] w fun e w' => e = .returned (.tuple #[]) ∧ ∃ sv', QMem w' sb c0 c1 c2 c3 c4 sv' (Q ++ [(d, y)]) ∧ QFr sb sv sv' w w' := by
  obtain ⟨so, c, rfl, _, _⟩ := h.shape
  obtain ⟨_, _, _, _, _, a5, _, b5⟩ := h.cells
  have hlt := lt_of_get h.box
  have hq0 : (w.drew.alloc (.cells #[.int .u64 d, .int .i64 y] 87)).heap[w.heap.size]? = some (.cells #[.int .u64 d, .int .i64 y] 87) := heap_new _ _
  have hbW : Below w.heap.size w (w.drew.alloc (.cells #[.int .u64 d, .int .i64 y] 87)) := (Below.refl _ w).drew.alloc (Nat.le_refl _) _
  have HX : Hid ((w.drew.alloc (.cells #[.int .u64 d, .int .i64 y] 87)).ownsRow 0 87 2 (.slice so Q.length c) Q.length (flatE Q) ∧ (w.drew.alloc (.cells #[.int .u64 d, .int .i64 y] 87)).cell? ⟨w.heap.size, 0, none⟩ = some (.int .u64 d) ∧ (w.drew.alloc (.cells #[.int .u64 d, .int .i64 y] 87)).cell? (Addr.add ⟨w.heap.size, 0, none⟩ 1) = some (.int .i64 y)) := ⟨(h.up hbW).row, cell_ofW hq0 rfl, cell_ofW (o := 1) hq0 rfl⟩
  have HFI : Hid (∀ v' w2, w2.ownsRow 0 87 2 v' (Q ++ [(d, y)]).length (flatE (Q ++ [(d, y)])) → (w.drew.alloc (.cells #[.int .u64 d, .int .i64 y] 87)).grownBy w2 (Value.slice so Q.length c).ownBlock → (∀ k, v'.ownBlock = some k → (Value.slice so Q.length c).ownBlock = some k ∨ (w.drew.alloc (.cells #[.int .u64 d, .int .i64 y] 87)).heap.size ≤ k) →
      QMem (w2.setCell ⟨sb, 5, none⟩ v') sb c0 c1 c2 c3 c4 v' (Q ++ [(d, y)]) ∧ QFr sb (.slice so Q.length c) v' w (w2.setCell ⟨sb, 5, none⟩ v') ∧ w2.cell? ⟨sb, 5, none⟩ = some (.slice so Q.length c) ∧ w2.frozen? ⟨sb, 5, none⟩ = false ∧ sb < w2.heap.size) := fun v' w2 o1 gr fr => h.pushed hbW o1 gr fr
  have hTA : ∀ wx, (Instr.typeAssert (.iface 87 (.agg #[.int .u64 d, .int .i64 y])) 20 87 false).run Try.prog wx = .ok (.agg #[.int .u64 d, .int .i64 y]) wx := fun _ => by kernel_rfl
  clear h hq0 hbW
  go_enter Try.func104, Try.ntmps104
  go_wp2_with fail
  go_region_law (first | (refine step_append_e rfl _ _ rfl (.slice so Q.length c) Q rfl HX.out.1 ⟨w.heap.size, 0, none⟩ d y rfl HX.out.2.1 HX.out.2.2 (by omega) ?_; intro v3 w3 hown3 hgr3 hfr3; obtain ⟨x1, x2, x3, x4, x5⟩ := HFI.out v3 w3 hown3 hgr3 hfr3; obtain ⟨po, pc, hv3⟩ := rowE_slice hown3; subst hv3; have Y3 : Hid (type_of% (And.intro x1 x2)) := ⟨x1, x2⟩; clear hown3 hgr3 hfr3 x1 x2))
  all_goals
    go_wp2
    go_end0
    have h1 := Y3.out.1
    have h2 := Y3.out.2
    simp only [List.length_append, List.length_cons, List.length_nil, Nat.zero_add] at h1 h2
    first | exact ⟨rfl, _, h1, h2⟩ | exact ⟨rfl, _, h1.drew, h2.drew⟩
end Go.Proofs.Ytcfpkbmeblfhoaa.Wt
