/- rows of halves of one's own, and what append makes of them. the rows that viaductref08.DocBounded makes, in memory. -/
import Derived.Test.YtnkfggccahohpaaDoorSdA
import Derived.Test.YtnkfggccahohpaaDoorSrG
import Derived.Test.YtnkfggccahohpaaDoorSqF
namespace Go.Proofs.YtnkfggccahohpaaDoor
open Go.RowKit Go.Extern Go.Sort

attribute [local go_sem] Oper.semAt_some

theorem infoHf : (Tryd.prog.info? 98).map (fun i => (i.zero, i.size, i.bytes)) = some (some (.agg #[.int .i64 0, .int .u64 0]), 2, 16) := by kernel_rfl
/-- the cells of halves. -/
def flatH (l : List (Int × Int × Int)) : List Value := l.flatMap fun a => [.int .i64 a.2.1, .int .u64 a.2.2]
theorem flatH_append (l r : List (Int × Int × Int)) : flatH (l ++ r) = flatH l ++ flatH r := by simp [flatH]
theorem flatH_len (l : List (Int × Int × Int)) : (flatH l).length = l.length * 2 := by
  induction l with
  | nil => rfl
  | cons a r ih => simp only [flatH, List.flatMap_cons, List.length_append, List.length_cons] at *; rw [ih]; simp; omega
theorem flatH_get : ∀ (l : List (Int × Int × Int)) (i : Nat) (a : Int × Int × Int), l[i]? = some a → (flatH l)[i * 2]? = some (.int .i64 a.2.1) ∧ (flatH l)[i * 2 + 1]? = some (.int .u64 a.2.2)
  | [], i, a, h => by simp at h
  | b :: r, 0, a, h => by
    simp at h
    subst h
    simp [flatH]
  | b :: r, i + 1, a, h => by
    have ih := flatH_get r i a (by simpa using h)
    have e : flatH (b :: r) = [.int .i64 b.2.1, .int .u64 b.2.2] ++ flatH r := by simp [flatH]
    rw [e, show (i + 1) * 2 = i * 2 + 2 by omega]
    refine ⟨?_, ?_⟩
    · rw [List.getElem?_append_right (by simp)]; simpa using ih.1
    · rw [List.getElem?_append_right (by simp)]; simpa [show i * 2 + 2 + 1 - 2 = i * 2 + 1 by omega] using ih.2
theorem half_of_row {w : World} {base : Nat} {o : Option Addr} {c : Nat} {l : List (Int × Int × Int)} (h : w.ownsRow base 98 2 (.slice o l.length c) l.length (flatH l)) : HalfIn w o l := fun j a hj => by
  have hlt := (List.getElem?_eq_some_iff.1 hj).1
  rcases h.2 with ⟨e, h0⟩ | ⟨g, cap, cur, e, hg, hh, _⟩
  · omega
  · injection e with e1 e2 e3
    subst e1
    subst e3
    refine ⟨g, 0, rfl, lt_of_get hh, ?_⟩
    obtain ⟨g0, g1⟩ := flatH_get l j a hj
    rw [Nat.zero_add]
    exact ⟨(h.cellAt (j * 2) (by omega)).trans g0, (h.cellAt (j * 2 + 1) (by omega)).trans g1⟩
theorem rowH_slice {w : World} {base n : Nat} {xs : List Value} {v : Value} (h : w.ownsRow base 98 2 v n xs) : ∃ ao cap, v = .slice ao n cap := by
  rcases h.2 with ⟨h, h'⟩ | ⟨g, cap, cur, h, _⟩
  · exact ⟨none, 0, by rw [h']; exact h⟩
  · exact ⟨_, cap, h⟩
theorem rowH_keep {w w' : World} {B n : Nat} {v : Value} {xs : List Value} (h : w.ownsRow B 98 2 v n xs) (hk : ∀ k, v.ownBlock = some k → w'.heap[k]? = w.heap[k]?) : w'.ownsRow B 98 2 v n xs := by
  obtain ⟨h1, h2⟩ := h
  refine ⟨h1, ?_⟩
  rcases h2 with h2 | ⟨g, cap, cur, e, hb, hh, r⟩
  · exact Or.inl h2
  · subst e
    exact Or.inr ⟨g, cap, cur, rfl, hb, (hk g rfl).trans hh, r⟩
theorem rowH_below {w w' : World} {B n : Nat} {v : Value} {xs : List Value} (h : w.ownsRow B 98 2 v n xs) (hb : Below w.heap.size w w') : w'.ownsRow B 98 2 v n xs := rowH_keep h fun k hk => hb.block _ (h.lt k hk).2
theorem rowH_not_box {w : World} {B n b : Nat} {v : Value} {xs : List Value} {c : Array Value} {T : TypeId} (h : w.ownsRow B 98 2 v n xs) (hb : w.heap[b]? = some (.cells c T)) (hT : T ≠ 98) : v.ownBlock ≠ some b := by
  rcases h.2 with ⟨rfl, _⟩ | ⟨g, cap, cur, rfl, _, hg, _⟩
  · simp [Value.ownBlock]
  · intro e
    simp [Value.ownBlock] at e
    subst e
    rw [hb] at hg
    cases hg
    exact hT rfl
theorem two_cell (w : World) (a b : Value) : ∀ j u, [a, b][j]? = some u → (w.alloc (.cells #[a, b] 98)).cell? ((⟨w.heap.size, 0, none⟩ : Addr).add j) = some u := by
  intro j u hj
  have h := heap_new w (.cells #[a, b] 98)
  generalize w.alloc (.cells #[a, b] 98) = W at h ⊢
  have ea : (⟨w.heap.size, 0, none⟩ : Addr).add j = ⟨w.heap.size, j, none⟩ := by unfold Addr.add; split <;> simp_all
  rw [ea]
  have hl := (List.getElem?_eq_some_iff.1 hj).1
  simp at hl
  rcases (show j = 0 ∨ j = 1 by omega) with rfl | rfl
  · simp at hj; subst hj; simp [World.cell?, h]
  · simp at hj; subst hj; simp [World.cell?, h]
/-- a half is appended to a row of the call's own, as one step of a region that draws. -/
theorem step_append_half {w : World} {ops : Array Oper} {o : Oper} {a : Act} {K : Act → World → Prop} {Q : Exit → Act → World → Prop} {E : Prop} (hg : o.guard = none) (s x : Operand)
    (ho : o.op = .call { callee := .builtin .append, args := #[s, x], argTypes := #[96, 96] }) (base : Nat) (v : Value) (L : List (Int × Int × Int)) (hs : a.eval s = v) (hown : w.ownsRow base 98 2 v L.length (flatH L))
    (ad : Addr) (ac : Nat) (b : Int × Int × Int) (hx : a.eval x = .slice (some ad) 1 ac) (hl : ∀ j u, [Value.int .i64 b.2.1, Value.int .u64 b.2.2][j]? = some u → w.cell? (ad.add j) = some u) (hlen : L.length + 1 ≤ 1048576) (hbase : base ≤ w.heap.size)
    (h : ∀ v' w', w'.ownsRow base 98 2 v' (L ++ [b]).length (flatH (L ++ [b])) → w.grownBy w' v.ownBlock → K (a.put o.dst v') w') :
    if Region.wanted o (yielded ops a.tmps) = true then Oper.wp Tryd.prog o a w K Q else E := by
  have hw : Region.wanted o (yielded ops a.tmps) = true := by simp [Region.wanted, hg]
  rw [if_pos hw]
  obtain ⟨i0, hi, hz0, hz1, hz2⟩ : ∃ i, Tryd.prog.info? 98 = some i ∧ i.zero = some (.agg #[.int .i64 0, .int .u64 0]) ∧ i.size = 2 ∧ i.bytes = 16 := by
    have h := infoHf
    cases hi : Tryd.prog.info? 98 with
    | none => rw [hi] at h; cases h
    | some i => rw [hi] at h; simp at h; exact ⟨i, rfl, h.1, h.2.1, h.2.2⟩
  refine wp_append_own w s x 96 ho base 98 i0 _ 2 16 Tryd.underlying96 hi hz0 hz1 hz2 rfl (by decide) v L.length (flatH L) hs hown ad 1 ac [.int .i64 b.2.1, .int .u64 b.2.2] hx rfl hl (by intro u hu; simp at hu; rcases hu with rfl | rfl <;> rfl) (by unfold maxLen; omega) (by omega) hbase ?_
  intro v' w' h1 h2 _
  exact h v' w' (by rw [List.length_append, flatH_append]; exact h1) h2
/-- the cells of the reference's labels. -/
theorem infoRl : (Tryd.prog.info? 57).map (fun i => (i.zero, i.size, i.bytes)) = some (some (.agg #[.int .i64 0, .int .u64 0, .int .i64 0, .bool false]), 4, 32) := by kernel_rfl
theorem step_append_label {w : World} {ops : Array Oper} {o : Oper} {a : Act} {K : Act → World → Prop} {Q : Exit → Act → World → Prop} {E : Prop} (hg : o.guard = none) (s x : Operand)
    (ho : o.op = .call { callee := .builtin .append, args := #[s, x], argTypes := #[52, 52] }) (base : Nat) (v : Value) (m : Nat) (L : List Value) (hs : a.eval s = v) (hown : w.ownsRow base 57 4 v m L)
    (ad : Addr) (ac : Nat) (p q r : Int) (b : Bool) (hx : a.eval x = .slice (some ad) 1 ac) (hl : ∀ j u, [Value.int .i64 p, Value.int .u64 q, Value.int .i64 r, Value.bool b][j]? = some u → w.cell? (ad.add j) = some u) (hlen : m + 1 ≤ 1048576) (hbase : base ≤ w.heap.size)
    (h : ∀ v' w', w'.ownsRow base 57 4 v' (m + 1) (L ++ [.int .i64 p, .int .u64 q, .int .i64 r, .bool b]) → w.grownBy w' v.ownBlock → K (a.put o.dst v') w') :
    if Region.wanted o (yielded ops a.tmps) = true then Oper.wp Tryd.prog o a w K Q else E := by
  have hw : Region.wanted o (yielded ops a.tmps) = true := by simp [Region.wanted, hg]
  rw [if_pos hw]
  obtain ⟨i0, hi, hz0, hz1, hz2⟩ : ∃ i, Tryd.prog.info? 57 = some i ∧ i.zero = some (.agg #[.int .i64 0, .int .u64 0, .int .i64 0, .bool false]) ∧ i.size = 4 ∧ i.bytes = 32 := by
    have h := infoRl
    cases hi : Tryd.prog.info? 57 with
    | none => rw [hi] at h; cases h
    | some i => rw [hi] at h; simp at h; exact ⟨i, rfl, h.1, h.2.1, h.2.2⟩
  refine wp_append_own w s x 52 ho base 57 i0 _ 4 32 Tryd.underlying52 hi hz0 hz1 hz2 rfl (by decide) v m L hs hown ad 1 ac [.int .i64 p, .int .u64 q, .int .i64 r, .bool b] hx rfl hl (by intro u hu; simp at hu; rcases hu with rfl | rfl | rfl | rfl <;> rfl) (by unfold maxLen; omega) (by omega) hbase ?_
  intro v' w' h1 h2 _
  exact h v' w' h1 h2
end Go.Proofs.YtnkfggccahohpaaDoor

namespace Go.Proofs.YtnkfggccahohpaaDoor
open Go.RowKit Go.Extern

theorem infoHs : (Tryd.prog.info? 96).map (fun i => (i.zero, i.size, i.bytes)) = some (some (.slice none 0 0), 1, 24) := by kernel_rfl
theorem arcsOf_row (zs : List (Int × Int × Int)) (v : Nat) : theRow zs v = arcsOf zs v := rfl
theorem rowC_not_box {w : World} {B n b : Nat} {v : Value} {xs : List Value} {c : Array Value} {T : TypeId} (h : w.ownsRow B 95 3 v n xs) (hb : w.heap[b]? = some (.cells c T)) (hT : T ≠ 95) : v.ownBlock ≠ some b := by
  rcases h.2 with ⟨rfl, _⟩ | ⟨g, cap, cur, rfl, _, hg, _⟩
  · simp [Value.ownBlock]
  · intro e
    simp [Value.ownBlock] at e
    subst e
    rw [hb] at hg
    cases hg
    exact hT rfl
theorem rowC_keep' {w w' : World} {B n : Nat} {v : Value} {xs : List Value} (h : w.ownsRow B 95 3 v n xs) (hk : ∀ k, v.ownBlock = some k → w'.heap[k]? = w.heap[k]?) : w'.ownsRow B 95 3 v n xs := by
  obtain ⟨h1, h2⟩ := h
  refine ⟨h1, ?_⟩
  rcases h2 with h2 | ⟨g, cap, cur, e, hb, hh, r⟩
  · exact Or.inl h2
  · subst e
    exact Or.inr ⟨g, cap, cur, rfl, hb, (hk g rfl).trans hh, r⟩
theorem rowH_low {w : World} {B B' n : Nat} {v : Value} {xs : List Value} (h : w.ownsRow B 98 2 v n xs) (hb : B' ≤ B) : w.ownsRow B' 98 2 v n xs := by
  obtain ⟨q1, q2⟩ := h
  refine ⟨q1, ?_⟩
  rcases q2 with q2 | ⟨g, cap, cur, e, hg, r⟩
  · exact Or.inl q2
  · exact Or.inr ⟨g, cap, cur, e, Nat.le_trans hb hg, r⟩
theorem rowC_low {w : World} {B B' n : Nat} {v : Value} {xs : List Value} (h : w.ownsRow B 95 3 v n xs) (hb : B' ≤ B) : w.ownsRow B' 95 3 v n xs := by
  obtain ⟨q1, q2⟩ := h
  refine ⟨q1, ?_⟩
  rcases q2 with q2 | ⟨g, cap, cur, e, hg, r⟩
  · exact Or.inl q2
  · exact Or.inr ⟨g, cap, cur, e, Nat.le_trans hb hg, r⟩
theorem nilHalf (w : World) (B : Nat) : w.ownsRow B 98 2 (.slice none 0 0) 0 [] := World.ownsRow_nil _ _ _ _
/-- the first v rows are made. -/
structure RBd (w : World) (c0 c1 c2 : Value) (rb n : Nat) (zs : List (Int × Int × Int)) (v : Nat) (vs : List Value) (wr : World) : Prop where
  db : DB w c0 c1 c2 wr
  lv : vs.length = v
  rows : wr.heap[rb]? = some (.cells (vs ++ List.replicate (n - v) (Value.slice none 0 0)).toArray 96)
  own : ∀ (u : Nat) (x : Value), vs[u]? = some x → wr.ownsRow 0 98 2 x (arcsOf zs u).length (flatH (arcsOf zs u))
/-- and of the next one a part. -/
structure RCd (w : World) (c0 c1 c2 : Value) (rb n : Nat) (zs : List (Int × Int × Int)) (v : Nat) (vs : List Value) (B : Nat) (lv' : Value) (L : List (Int × Int × Int)) (so : Option Addr) (sc : Nat) (wr : World) : Prop where
  db : DB w c0 c1 c2 wr
  lv : vs.length = v
  low : w.heap.size + 2 ≤ rb ∧ rb < B ∧ B ≤ wr.heap.size
  rows : wr.heap[rb]? = some (.cells (vs ++ Value.slice so L.length sc :: List.replicate (n - v - 1) (Value.slice none 0 0)).toArray 96)
  own : ∀ (u : Nat) (x : Value), vs[u]? = some x → wr.ownsRow 0 98 2 x (arcsOf zs u).length (flatH (arcsOf zs u)) ∧ ∀ k, x.ownBlock = some k → k < B
  me : wr.ownsRow B 98 2 (.slice so L.length sc) L.length (flatH L)
  arcs : wr.ownsRow 0 95 3 lv' (arcsOf zs v).length (flatC (arcsOf zs v)) ∧ ∀ k, lv'.ownBlock = some k → k < B
section
variable {w wr wx : World} {c0 c1 c2 : Value} {rb n : Nat} {zs : List (Int × Int × Int)} {v : Nat} {vs : List Value} {B : Nat} {lv' : Value} {L M : List (Int × Int × Int)} {so po : Option Addr} {sc pc : Nat}
theorem RBd.keep (h : RBd w c0 c1 c2 rb n zs v vs wr) (hb : Below wr.heap.size wr wx) : RBd w c0 c1 c2 rb n zs v vs wx :=
  ⟨h.db.keep hb, h.lv, (hb.block _ (lt_of_get h.rows)).trans h.rows, fun u x hx => rowH_below (h.own u x hx) hb⟩
theorem RCd.keep (h : RCd w c0 c1 c2 rb n zs v vs B lv' L so sc wr) (hb : Below wr.heap.size wr wx) : RCd w c0 c1 c2 rb n zs v vs B lv' L so sc wx :=
  ⟨h.db.keep hb, h.lv, ⟨h.low.1, h.low.2.1, Nat.le_trans h.low.2.2 hb.size⟩, (hb.block _ (lt_of_get h.rows)).trans h.rows, fun u x hx => ⟨rowH_below (h.own u x hx).1 hb, (h.own u x hx).2⟩, rowH_below h.me hb, rowC_keep h.arcs.1 hb, h.arcs.2⟩
theorem RCd.start (h : RBd w c0 c1 c2 rb n zs v vs wr) (hv : v < n) (hlow : w.heap.size + 2 ≤ rb) (ha : wr.ownsRow 0 95 3 lv' (arcsOf zs v).length (flatC (arcsOf zs v))) : RCd w c0 c1 c2 rb n zs v vs wr.heap.size lv' [] none 0 wr := by
  refine ⟨h.db, h.lv, ⟨hlow, lt_of_get h.rows, Nat.le_refl _⟩, ?_, fun u x hx => ⟨h.own u x hx, fun k hk => ((h.own u x hx).lt k hk).2⟩, nilHalf _ _, ha, fun k hk => (ha.lt k hk).2⟩
  rw [h.rows, show n - v = (n - v - 1) + 1 by omega, List.replicate_succ]
  rfl
theorem RCd.put (h : RCd w c0 c1 c2 rb n zs v vs B lv' L so sc wr) (hown : wx.ownsRow B 98 2 (.slice po M.length pc) M.length (flatH M)) (hgr : wr.grownBy wx (Value.slice so L.length sc).ownBlock) :
    wx.heap[rb]? = some (.cells (vs ++ Value.slice so L.length sc :: List.replicate (n - v - 1) (Value.slice none 0 0)).toArray 96) ∧ RCd w c0 c1 c2 rb n zs v vs B lv' M po pc (wx.setCell ⟨rb, v, none⟩ (.slice po M.length pc)) := by
  have lr := lt_of_get h.rows
  have hB := h.low
  have g0 := (hgr.block _ lr (Ne.symm (rowH_not_box h.me h.rows (by decide)))).trans h.rows
  have g1 := (hgr.block _ (lt_of_get h.db.box) (Ne.symm (rowH_not_box h.me h.db.box (by decide)))).trans h.db.box
  have g2 := (hgr.block _ (lt_of_get h.db.res) (Ne.symm (rowH_not_box h.me h.db.res (by decide)))).trans h.db.res
  have hfar : ∀ k, k < B → wx.heap[k]? = wr.heap[k]? := fun k hk => hgr.block k (by omega) (fun e => by have := (h.me.lt k e.symm).1; omega)
  have hbel : Below w.heap.size w wx := h.db.below.trans ⟨hgr.os, hgr.tape, hgr.output, hgr.size, fun k hk => hfar k (by omega)⟩
  have hkeep : ∀ k, k < B → k ≠ rb → (wx.setCell ⟨rb, v, none⟩ (.slice po M.length pc)).heap[k]? = wr.heap[k]? := fun k hk hne => (heap_setCell_other _ _ _ _ hne).trans (hfar k hk)
  refine ⟨g0, ⟨?_, ?_, ?_⟩, h.lv, ⟨hB.1, hB.2.1, ?_⟩, ?_, fun u x hx => ⟨?_, (h.own u x hx).2⟩, ?_, ?_, h.arcs.2⟩
  · exact hbel.setCell (p := ⟨rb, v, none⟩) (by show w.heap.size ≤ rb; omega) _
  · exact (heap_setCell_other _ _ _ _ (by show w.heap.size ≠ rb; omega)).trans g1
  · exact (heap_setCell_other _ _ _ _ (by show w.heap.size + 1 ≠ rb; omega)).trans g2
  · have := hgr.size
    simp
    omega
  · rw [Go.heap_setCell_same _ _ v _ _ _ g0, List.setIfInBounds_toArray, ← h.lv, List.set_append_right _ _ (Nat.le_refl _)]
    simp
  · exact rowH_keep (h.own u x hx).1 fun k hk => hkeep k ((h.own u x hx).2 k hk) (fun e => rowH_not_box (h.own u x hx).1 h.rows (by decide) (e ▸ hk))
  · refine rowH_keep hown fun k hk => heap_setCell_other _ _ _ _ (fun e => ?_)
    have e' : k = rb := e
    exact rowH_not_box hown g0 (by decide) (e' ▸ hk)
  · exact rowC_keep' h.arcs.1 fun k hk => hkeep k (h.arcs.2 k hk) (fun e => rowC_not_box h.arcs.1 h.rows (by decide) (e ▸ hk))
theorem RCd.at (h : RCd w c0 c1 c2 rb n zs v vs B lv' L so sc wr) : wr.cell? ⟨rb, v, none⟩ = some (.slice so L.length sc) ∧ wr.frozen? ⟨rb, v, none⟩ = false ∧ rb < wr.heap.size := by
  have hr := h.rows
  have hl := h.lv
  refine ⟨?_, ?_, lt_of_get hr⟩
  · simp [World.cell?, hr, ← hl]
  · simp [World.frozen?, hr]
theorem row_at3 {x : Value} {l : List Value} (h : wr.heap[rb]? = some (.cells (vs ++ x :: l).toArray 96)) (hl : vs.length = v) : wr.cell? ⟨rb, v, none⟩ = some x ∧ wr.frozen? ⟨rb, v, none⟩ = false ∧ rb < wr.heap.size := by
  refine ⟨?_, ?_, lt_of_get h⟩
  · simp [World.cell?, h, ← hl]
  · simp [World.frozen?, h]
theorem RCd.done (h : RCd w c0 c1 c2 rb n zs v vs B lv' (arcsOf zs v) so sc wr) (hv : v < n) : RBd w c0 c1 c2 rb n zs (v + 1) (vs ++ [.slice so (arcsOf zs v).length sc]) wr := by
  refine ⟨h.db, by simp [h.lv], ?_, fun u x hx => ?_⟩
  · rw [h.rows, show n - (v + 1) = n - v - 1 by omega]
    simp
  · rw [List.getElem?_append] at hx
    split at hx
    · exact (h.own u x hx).1
    · rename_i hge
      have hu := (List.getElem?_eq_some_iff.1 hx).1
      simp at hu
      have hu' : u = v := by have := h.lv; omega
      subst hu'
      rw [show u - vs.length = 0 by have := h.lv; omega] at hx
      simp at hx
      subst hx
      exact rowH_low h.me (Nat.zero_le _)
theorem RBd.rowsIn (h : RBd w c0 c1 c2 rb n zs n vs wr) : RowsIn wr rb n zs := ⟨lt_of_get h.rows, fun u hu => by
  obtain ⟨x, hx⟩ : ∃ x, vs[u]? = some x := ⟨vs[u]'(by rw [h.lv]; exact hu), List.getElem?_eq_getElem _⟩
  have ho := h.own u x hx
  obtain ⟨o, c, rfl⟩ := rowH_slice ho
  refine ⟨o, c, ?_, half_of_row ho⟩
  have hr := h.rows
  simp [World.cell?, hr, h.lv, hu]
  have := hx
  rw [List.getElem?_eq_some_iff] at this
  exact this.2⟩
end
end Go.Proofs.YtnkfggccahohpaaDoor
