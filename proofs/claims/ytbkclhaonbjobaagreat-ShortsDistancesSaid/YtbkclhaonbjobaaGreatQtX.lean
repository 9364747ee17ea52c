/- Rows of shortcuts in memory. hasArc, dearWays. withoutWitness. -/
import Derived.Test.YtbkclhaonbjobaaGreatQoX
import Derived.Test.YtbkclhaonbjobaaGreatQlX
import Derived.ArgAppend
import Derived.Deep.DeepAppendRoom
import Derived.Test.YtbkclhaonbjobaaGreatQsX
import Derived.BigQuiet
namespace Go.Proofs.YtbkclhaonbjobaaGreat.Wt
open Go Go.RowKit Go.Extern Go.Deep

attribute [local go_sem] Oper.semAt_some

/-- a shortcut: from, to, weight. -/
abbrev S3 := Int × Int × Int
def HasSs (w : World) (lv : Value) (xs : List S3) : Prop :=
  ∃ ao cap, lv = .slice ao xs.length cap ∧ ∀ j a, xs[j]? = some a → ∃ b off, ao = some ⟨b, off, none⟩ ∧ b < w.heap.size ∧ w.cell? ⟨b, off + j * 3, none⟩ = some (.int .i64 a.1) ∧ w.cell? ⟨b, off + j * 3 + 1, none⟩ = some (.int .i64 a.2.1) ∧ w.cell? ⟨b, off + j * 3 + 2, none⟩ = some (.int .u64 a.2.2)
theorem HasSs.keep {w w' : World} {lv : Value} {xs : List S3} (h : HasSs w lv xs) (hb : Below w.heap.size w w') : HasSs w' lv xs := by
  obtain ⟨ao, cap, e, hc⟩ := h
  refine ⟨ao, cap, e, fun j a hj => ?_⟩
  obtain ⟨b, off, e1, hl, h0, h1, h2⟩ := hc j a hj
  exact ⟨b, off, e1, Nat.lt_of_lt_of_le hl hb.size, (hb.cell (p := ⟨b, _, none⟩) hl).trans h0, (hb.cell (p := ⟨b, _, none⟩) hl).trans h1, (hb.cell (p := ⟨b, _, none⟩) hl).trans h2⟩
theorem HasSs.at {w : World} {ao : Option Addr} {n cap : Nat} {xs : List S3} (h : HasSs w (.slice ao n cap) xs) {k : Nat} {a : S3} (hp : xs[k]? = some a) :
    ∃ b off, ao = some ⟨b, off, none⟩ ∧ b < w.heap.size ∧ w.cell? ⟨b, off + k * 3, none⟩ = some (.int .i64 a.1) ∧ w.cell? ⟨b, off + k * 3 + 1, none⟩ = some (.int .i64 a.2.1) ∧ w.cell? ⟨b, off + k * 3 + 2, none⟩ = some (.int .u64 a.2.2) := by
  obtain ⟨ao', cap', e, hc⟩ := h
  injection e with e1 e2 e3
  subst e1
  exact hc k a hp
theorem hasSs_nil (w : World) (cap : Nat) (ao : Option Addr) : HasSs w (.slice ao 0 cap) [] := ⟨ao, cap, rfl, fun j a hj => by simp at hj⟩
def flatS (l : List S3) : List Value := l.flatMap fun a => [.int .i64 a.1, .int .i64 a.2.1, .int .u64 a.2.2]
theorem flatS_cons (a : S3) (r : List S3) : flatS (a :: r) = .int .i64 a.1 :: .int .i64 a.2.1 :: .int .u64 a.2.2 :: flatS r := by simp [flatS]
theorem flatS_len (l : List S3) : (flatS l).length = l.length * 3 := by
  induction l with
  | nil => rfl
  | cons a r ih => rw [flatS_cons]; simp only [List.length_cons]; omega
theorem flatS_append (l r : List S3) : flatS (l ++ r) = flatS l ++ flatS r := by simp [flatS]
theorem flatS_take (l : List S3) (k : Nat) : (flatS l).take (k * 3) = flatS (l.take k) := by
  induction l generalizing k with
  | nil => simp [flatS]
  | cons a r ih =>
    cases k with
    | zero => simp [flatS]
    | succ k =>
      rw [flatS_cons, List.take_succ_cons, flatS_cons, show (k + 1) * 3 = k * 3 + 1 + 1 + 1 by omega, List.take_succ_cons, List.take_succ_cons, List.take_succ_cons, ih]
theorem flatS_get : ∀ (l : List S3) (i : Nat) (a : S3), l[i]? = some a → (flatS l)[i * 3]? = some (.int .i64 a.1) ∧ (flatS l)[i * 3 + 1]? = some (.int .i64 a.2.1) ∧ (flatS l)[i * 3 + 2]? = some (.int .u64 a.2.2)
  | [], i, a, h => by simp at h
  | b :: r, 0, a, h => by
    simp at h
    subst h
    simp [flatS]
  | b :: r, i + 1, a, h => by
    have ih := flatS_get r i a (by simpa using h)
    rw [flatS_cons, show (i + 1) * 3 = i * 3 + 1 + 1 + 1 by omega]
    simp only [List.getElem?_cons_succ]
    exact ih
theorem flatS_set : ∀ (l : List S3) (i : Nat) (x : S3), (((flatS l).set (i * 3) (.int .i64 x.1)).set (i * 3 + 1) (.int .i64 x.2.1)).set (i * 3 + 2) (.int .u64 x.2.2) = flatS (l.set i x)
  | [], i, x => by simp [flatS]
  | b :: r, 0, x => by simp [flatS]
  | b :: r, i + 1, x => by
    have ih := flatS_set r i x
    rw [List.set_cons_succ, flatS_cons, flatS_cons, ← ih, show (i + 1) * 3 = i * 3 + 1 + 1 + 1 by omega, show i * 3 + 1 + 1 + 1 + 1 = (i * 3 + 1) + 1 + 1 + 1 by omega, show i * 3 + 1 + 1 + 1 + 2 = (i * 3 + 2) + 1 + 1 + 1 by omega]
    simp only [List.set_cons_succ]
theorem flatS_one (l : List S3) : ∀ u ∈ flatS l, u.oneCell' = true := by
  intro u hu
  simp only [flatS, List.mem_flatMap] at hu
  obtain ⟨a, _, ha⟩ := hu
  simp at ha
  rcases ha with rfl | rfl | rfl <;> rfl
theorem flatS_at {w : World} {a : Addr} {n cap : Nat} {xs : List S3} (h : HasSs w (.slice (some a) n cap) xs) : ∀ j u, (flatS xs)[j]? = some u → w.cell? (a.add j) = some u := by
  intro j u hj
  have hlt := (List.getElem?_eq_some_iff.1 hj).1
  rw [flatS_len] at hlt
  have hx : xs[j / 3]? = some xs[j / 3] := List.getElem?_eq_getElem (by omega)
  obtain ⟨b, off, e, _, h0, h1, h2⟩ := h.at hx
  obtain ⟨g0, g1, g2⟩ := flatS_get xs (j / 3) _ hx
  obtain rfl : a = ⟨b, off, none⟩ := Option.some.inj e
  have ea : (⟨b, off, none⟩ : Addr).add j = ⟨b, off + j, none⟩ := by unfold Addr.add; split <;> simp_all
  rw [ea]
  rcases (show j = j / 3 * 3 ∨ j = j / 3 * 3 + 1 ∨ j = j / 3 * 3 + 2 by omega) with hj' | hj' | hj'
  · rw [hj'] at hj ⊢; rw [g0] at hj; cases hj; exact h0
  · rw [hj'] at hj ⊢; rw [g1] at hj; cases hj; exact h1
  · rw [hj'] at hj ⊢; rw [g2] at hj; cases hj; exact h2
theorem ss_of_row {w : World} {base : Nat} {E : TypeId} {v : Value} {l : List S3} (h : w.ownsRow base E 3 v l.length (flatS l)) : HasSs w v l := by
  rcases h.2 with ⟨e, h0⟩ | ⟨g, cap, cur, rfl, hg, hh, _⟩
  · have : l = [] := List.eq_nil_of_length_eq_zero h0
    subst this
    exact ⟨none, 0, e, fun j p hj => by simp at hj⟩
  · refine ⟨_, cap, rfl, fun j a hj => ⟨g, 0, rfl, lt_of_get hh, ?_⟩⟩
    have hlt := (List.getElem?_eq_some_iff.1 hj).1
    obtain ⟨g0, g1, g2⟩ := flatS_get l j a hj
    rw [Nat.zero_add]
    exact ⟨(h.cellAt (j * 3) (by omega)).trans g0, (h.cellAt (j * 3 + 1) (by omega)).trans g1, (h.cellAt (j * 3 + 2) (by omega)).trans g2⟩
theorem ssr_slice {w : World} {base n : Nat} {E : TypeId} {xs : List Value} {v : Value} (h : w.ownsRow base E 3 v n xs) : ∃ ao cap, v = .slice ao n cap := by
  rcases h.2 with ⟨h, h'⟩ | ⟨g, cap, cur, h, _⟩
  · exact ⟨none, 0, by rw [h']; exact h⟩
  · exact ⟨_, cap, h⟩
theorem row_keep9 {w w' : World} {base n size : Nat} {E : TypeId} {xs : List Value} {v : Value} (h : w.ownsRow base E size v n xs) (hk : ∀ g, v.ownBlock = some g → w'.heap[g]? = w.heap[g]?) : w'.ownsRow base E size v n xs := by
  obtain ⟨h1, h2⟩ := h
  refine ⟨h1, ?_⟩
  rcases h2 with h2 | ⟨g, cap, cur, e, hb, hh, r⟩
  · exact Or.inl h2
  · exact Or.inr ⟨g, cap, cur, e, hb, (hk g (by rw [e]; rfl)).trans hh, r⟩
theorem row_below9 {w w' : World} {base n size : Nat} {E : TypeId} {xs : List Value} {v : Value} (h : w.ownsRow base E size v n xs) (hb : Below w.heap.size w w') : w'.ownsRow base E size v n xs := row_keep9 h fun k hk => hb.block _ (h.lt k hk).2
theorem below_grown9 {w0 w w' : World} {base base' n size : Nat} {E : TypeId} {xs : List Value} {v : Value} (hb : Below base w0 w) (h : w.ownsRow base' E size v n xs) (hg : w.grownBy w' v.ownBlock) (hs : base ≤ w.heap.size) (hbb : base ≤ base') : Below base w0 w' :=
  ⟨hg.os.trans hb.os, hg.tape.trans hb.tape, hg.output.trans hb.output, Nat.le_trans hb.size hg.size, fun j hj => (hg.block j (by omega) (fun e => by have := (h.lt j e.symm).1; omega)).trans (hb.block j hj)⟩
/-- one shortcut in a block of its own. -/
theorem ss_one (w : World) (a : S3) (T : TypeId) : HasSs (w.alloc (.cells #[.int .i64 a.1, .int .i64 a.2.1, .int .u64 a.2.2] T)) (.slice (some ⟨w.heap.size, 0, none⟩) 1 1) [a] := by
  have h := heap_new w (.cells #[.int .i64 a.1, .int .i64 a.2.1, .int .u64 a.2.2] T)
  generalize w.alloc (.cells #[.int .i64 a.1, .int .i64 a.2.1, .int .u64 a.2.2] T) = W at h ⊢
  refine ⟨_, _, rfl, fun j x hj => ?_⟩
  cases j with
  | zero =>
    simp at hj
    subst hj
    exact ⟨_, 0, rfl, lt_of_get h, by simp [World.cell?, h], by simp [World.cell?, h], by simp [World.cell?, h]⟩
  | succ j => simp at hj
theorem infoS : (Tryz.prog.info? 89).map (fun i => (i.zero, i.size, i.bytes)) = some (some (.agg #[.int .i64 0, .int .i64 0, .int .u64 0]), 3, 24) := by kernel_rfl
theorem infoS' : ∃ i, Tryz.prog.info? 89 = some i ∧ i.zero = some (.agg #[.int .i64 0, .int .i64 0, .int .u64 0]) ∧ i.size = 3 ∧ i.bytes = 24 := by
  have h := infoS
  cases hi : Tryz.prog.info? 89 with
  | none => rw [hi] at h; cases h
  | some i => rw [hi] at h; simp at h; exact ⟨i, rfl, h.1, h.2.1, h.2.2⟩
/-- append of shortcuts onto a row of the call's own. -/
theorem wpList_append_ss {w : World} {ops : Array Oper} {rest : List Oper} {o : Oper} {a : Act} {Q : Exit → Act → World → Prop} (hgd : o.guard = none) (s x : Operand)
    (ho : o.op = .call { callee := .builtin .append, args := #[s, x], argTypes := #[38, 38] })
    (base : Nat) (v : Value) (L : List S3) (hs : a.eval s = v) (hown : w.ownsRow base 89 3 v L.length (flatS L))
    (ad : Addr) (ac : Nat) (xs : List S3) (hx : a.eval x = .slice (some ad) xs.length ac) (hl : HasSs w (.slice (some ad) xs.length ac) xs)
    (hlen : L.length + xs.length ≤ 1048576) (hbase : base ≤ w.heap.size)
    (h : ∀ v' w', w'.ownsRow base 89 3 v' (L ++ xs).length (flatS (L ++ xs)) → w.grownBy w' v.ownBlock → wpList Tryz.prog ops Q rest (a.put o.dst v') w') : wpList Tryz.prog ops Q (o :: rest) a w := by
  obtain ⟨i0, hi, hz0, hz1, hz2⟩ := infoS'
  refine wpList_append_own _ hgd s x 38 ho base 89 i0 _ 3 24 Tryz.underlying38 hi hz0 hz1 hz2 rfl (by decide) v L.length (flatS L) hs hown ad xs.length ac (flatS xs) hx (flatS_len xs) (flatS_at hl) (flatS_one xs) (by unfold maxLen; omega) (by omega) hbase ?_
  intro v' w' h1 h2 _
  exact h v' w' (by rw [List.length_append, flatS_append]; exact h1) h2
/-- with room: the block stays. -/
theorem wpList_append_ssR {w : World} {ops : Array Oper} {rest : List Oper} {o : Oper} {a : Act} {Q : Exit → Act → World → Prop} (hgd : o.guard = none) (s x : Operand)
    (ho : o.op = .call { callee := .builtin .append, args := #[s, x], argTypes := #[38, 38] })
    (base g cap : Nat) (L : List S3) (hs : a.eval s = .slice (some ⟨g, 0, none⟩) L.length cap) (hown : w.ownsRow base 89 3 (.slice (some ⟨g, 0, none⟩) L.length cap) L.length (flatS L))
    (ad : Addr) (ac : Nat) (y : S3) (hx : a.eval x = .slice (some ad) 1 ac) (hl : HasSs w (.slice (some ad) 1 ac) [y])
    (hroom : L.length + 1 ≤ cap)
    (h : ∀ w', w'.ownsRow base 89 3 (.slice (some ⟨g, 0, none⟩) (L ++ [y]).length cap) (L ++ [y]).length (flatS (L ++ [y])) → w.grownBy w' (some g) → wpList Tryz.prog ops Q rest (a.put o.dst (.slice (some ⟨g, 0, none⟩) (L ++ [y]).length cap)) w') : wpList Tryz.prog ops Q (o :: rest) a w := by
  obtain ⟨i0, hi, hz0, hz1, hz2⟩ := infoS'
  refine wpList_append_own_spare _ hgd s x 38 ho base 89 i0 3 Tryz.underlying38 hi hz1 g L.length cap (flatS L) hs hown ad 1 ac (flatS [y]) hx (flatS_len [y]) (flatS_at hl) (flatS_one [y]) hroom ?_
  intro w' h1 h2
  have e : (L ++ [y]).length = L.length + 1 := by simp
  rw [e] at h
  exact h w' (by rw [flatS_append]; exact h1) h2
/-- in place: a row is written over from its beginning. -/
theorem wpList_append_ssI {w : World} {ops : Array Oper} {rest : List Oper} {o : Oper} {a : Act} {Q : Exit → Act → World → Prop} (hgd : o.guard = none) (s x : Operand)
    (ho : o.op = .call { callee := .builtin .append, args := #[s, x], argTypes := #[38, 38] })
    (base g cap c : Nat) (M : List S3) (hs : a.eval s = .slice (some ⟨g, 0, none⟩) c cap) (hown : w.ownsRow base 89 3 (.slice (some ⟨g, 0, none⟩) M.length cap) M.length (flatS M)) (hc : c < M.length)
    (ad : Addr) (ac : Nat) (y : S3) (hx : a.eval x = .slice (some ad) 1 ac) (hl : HasSs w (.slice (some ad) 1 ac) [y])
    (h : ∀ w', w'.ownsRow base 89 3 (.slice (some ⟨g, 0, none⟩) M.length cap) M.length (flatS (M.set c y)) → w.grownBy w' (some g) → wpList Tryz.prog ops Q rest (a.put o.dst (.slice (some ⟨g, 0, none⟩) (c + 1) cap)) w') : wpList Tryz.prog ops Q (o :: rest) a w := by
  obtain ⟨i0, hi, hz0, hz1, hz2⟩ := infoS'
  have hrow := hown
  rcases hown.2 with ⟨e, _⟩ | ⟨g', cap', cur, e, hbg, hh, hnc, hcm, hcs, htk⟩
  · cases e
  injection e with e1 e2 e3
  subst e3
  obtain rfl : g = g' := by
    have := Option.some.inj e1
    injection this
  have hcell : ∀ j, j < 3 → (w.cell? ⟨g, 0 + c * i0.size + j, none⟩).isSome = true := fun j hj => by
    have hlt : c * 3 + j < cur.size := by rw [hcs]; have := Nat.mul_le_mul_right 3 hnc; omega
    rw [hz1, Nat.zero_add]
    simp [World.cell?, hh, Array.getElem?_eq_getElem hlt]
  have hr := run_append_room_cells (P := Tryz.prog) w 38 o.type 89 i0 Tryz.underlying38 hi g 0 c cap ad 1 ac (flatS [y]) (by rw [hz1]; exact flatS_len [y]) (flatS_at hl) (flatS_one [y]) (by omega) (fun j hj => hcell j (by simpa [flatS_len] using hj)) (fun j hj => by simp [World.frozen?, hh])
  refine wpList_plain hgd fun K hK => ?_
  unfold Oper.wp execOp
  simp only [ho, resolve, invoke, builtin, Sem.run_bind, Sem.run_pure, Result.andThen_ok, List.map_toArray, List.map_cons, List.map_nil, hs, hx, hr]
  refine hK _ _ (h _ ?_ ?_)
  · obtain ⟨y0, y1, y2⟩ := y
    have e2 : w.setCells g (0 + c * i0.size) (flatS [(y0, y1, y2)]) = ((w.setCell ⟨g, c * 3, none⟩ (.int .i64 y0)).setCell ⟨g, c * 3 + 1, none⟩ (.int .i64 y1)).setCell ⟨g, c * 3 + 2, none⟩ (.int .u64 y2) := by
      rw [hz1, Nat.zero_add, flatS_cons]
      rfl
    rw [e2]
    have hset : ∀ (W : World) (o : Nat) (cu : Array Value) (v : Value), W.heap[g]? = some (.cells cu 89 (0, 0)) → (W.setCell ⟨g, o, none⟩ v).heap[g]? = some (.cells (cu.setIfInBounds o v) 89 (0, 0)) := fun W o cu v hW => by
      simp only [World.setCell, Array.getElem?_modify]
      rw [if_pos trivial, hW]
      rfl
    refine ⟨by rw [flatS_len, List.length_set], Or.inr ⟨g, cap, _, rfl, hbg, hset _ _ _ _ (hset _ _ _ _ (hset _ _ _ _ hh)), hnc, hcm, by simp only [Array.size_setIfInBounds]; exact hcs, ?_⟩⟩
    simp only [Array.toList_setIfInBounds, List.take_set]
    rw [htk]
    exact flatS_set M c (y0, y1, y2)
  · obtain ⟨y0, y1, y2⟩ := y
    have e2 : w.setCells g (0 + c * i0.size) (flatS [(y0, y1, y2)]) = ((w.setCell ⟨g, c * 3, none⟩ (.int .i64 y0)).setCell ⟨g, c * 3 + 1, none⟩ (.int .i64 y1)).setCell ⟨g, c * 3 + 2, none⟩ (.int .u64 y2) := by
      rw [hz1, Nat.zero_add, flatS_cons]
      rfl
    rw [e2]
    exact ⟨rfl, rfl, rfl, by simp, fun k _ hk => ((hso _ (fun e => hk (by rw [e]))).trans (hso _ (fun e => hk (by rw [e])))).trans (hso _ (fun e => hk (by rw [e])))⟩
/-- a row that lies in a block of its own lies at that block. -/
theorem own_base9 {w : World} {base g n cap size : Nat} {E : TypeId} {xs : List Value} (h : w.ownsRow base E size (.slice (some ⟨g, 0, none⟩) n cap) n xs) : w.ownsRow g E size (.slice (some ⟨g, 0, none⟩) n cap) n xs := by
  obtain ⟨h1, h2⟩ := h
  refine ⟨h1, ?_⟩
  rcases h2 with ⟨e, _⟩ | ⟨g', cap', cur, e, _, r⟩
  · cases e
  · have e9 := e
    injection e with e1 e2 e3
    obtain rfl : g = g' := by
      have := Option.some.inj e1
      injection this
    exact Or.inr ⟨g, cap', cur, e9, Nat.le_refl _, r⟩
/-- a row's beginning. -/
theorem own_head {w : World} {base g cap : Nat} {E : TypeId} {M : List S3} (h : w.ownsRow base E 3 (.slice (some ⟨g, 0, none⟩) M.length cap) M.length (flatS M)) {c : Nat} (hc : c ≤ M.length) : w.ownsRow base E 3 (.slice (some ⟨g, 0, none⟩) c cap) c (flatS (M.take c)) := by
  rcases h.2 with ⟨e, _⟩ | ⟨g', cap', cur, e, hbg, hh, hnc, hcm, hcs, htk⟩
  · cases e
  injection e with e1 e2 e3
  subst e3
  obtain rfl : g = g' := by
    have := Option.some.inj e1
    injection this
  refine ⟨by rw [flatS_len, List.length_take]; omega, Or.inr ⟨g, cap, cur, rfl, hbg, hh, by omega, hcm, hcs, ?_⟩⟩
  rw [← flatS_take, ← htk, List.take_take]
  congr 1
  have := Nat.mul_le_mul_right 3 hc
  omega
end Go.Proofs.YtbkclhaonbjobaaGreat.Wt

namespace Go.Proofs.YtbkclhaonbjobaaGreat.Wt
open Go Go.RowKit Go.Extern Go.Deep

attribute [local go_sem] Oper.semAt_some

/-- is there an arc as cheap? -/
def hasA (n : Nat) (bs : List Bool) (R : Bool → Nat → Rw) (a : S3) : Bool := match weightM n bs R a.1 a.2.1 with
  | some k => decide (k ≤ a.2.2)
  | none => false
/-- the way by two arcs. -/
def wayOf (i h : H3) : S3 := (i.1, h.1, i.2.1 + h.2.1)
def dearB (n : Nat) (bs : List Bool) (R : Bool → Nat → Rw) (i h : H3) : Bool := decide (h.1 ≠ i.1) && decide (i.2.1 + h.2.1 ≤ 140737488355328) && !hasA n bs R (wayOf i h)
def dearL (n : Nat) (bs : List Bool) (R : Bool → Nat → Rw) (i : H3) (out : List H3) : List S3 := (out.filter (dearB n bs R i)).map (wayOf i)
theorem dearL_succ {n : Nat} {bs : List Bool} {R : Bool → Nat → Rw} {i h : H3} {out : List H3} {k : Nat} (hk : out[k]? = some h) : dearL n bs R i (out.take (k + 1)) = dearL n bs R i (out.take k) ++ (if dearB n bs R i h then [wayOf i h] else []) := by
  unfold dearL
  rw [List.take_add_one, hk, List.filter_append, List.map_append]
  congr 1
  cases hb : dearB n bs R i h <;> simp [hb]
theorem dearL_len (n : Nat) (bs : List Bool) (R : Bool → Nat → Rw) (i : H3) (out : List H3) : (dearL n bs R i out).length ≤ out.length := by
  unfold dearL
  rw [List.length_map]
  exact List.length_filter_le _ _
section
variable {PX : Nat → Option Obj} {w : World} {B0 pb n : Nat} {bs : List Bool} {R : Bool → Nat → Rw} {nodes arcs : Int}
set_option maxRecDepth 100000 in
set_option maxHeartbeats 4000000 in
theorem has_calls (h : IsOv PX B0 w pb n bs R nodes arcs) (a0 a1 a2 : Int) : Calls Tryz.prog 71 #[.pointer (some ⟨pb, 0, none⟩), .agg #[.int .i64 a0, .int .i64 a1, .int .u64 a2]] w fun e w' => e = .returned (.bool (hasA n bs R (a0, a1, a2))) ∧ Below w.heap.size w w' := by
  obtain ⟨W0, hW0⟩ : ∃ W0, w.alloc (.cells #[.int .i64 a0, .int .i64 a1, .int .u64 a2] 89) = W0 := ⟨_, rfl⟩
  have HW0 : Hid (w.alloc (.cells #[.int .i64 a0, .int .i64 a1, .int .u64 a2] 89) = W0) := hW0
  have hB0 : Below w.heap.size w W0 := by rw [← hW0]; exact bel_one _ _
  have hbx : W0.heap[w.heap.size]? = some (.cells #[.int .i64 a0, .int .i64 a1, .int .u64 a2] 89) := by rw [← hW0]; exact heap_new _ _
  have HX : Hid (∀ wx, Below W0.heap.size W0 wx → (wx.cell? ⟨w.heap.size, 0, none⟩ = some (.int .i64 a0) ∧ wx.cell? ⟨w.heap.size, 1, none⟩ = some (.int .i64 a1) ∧ wx.cell? ⟨w.heap.size, 2, none⟩ = some (.int .u64 a2) ∧ w.heap.size < wx.heap.size) ∧ Below w.heap.size w wx) := fun wx hx => by
    have hh := (hx.block _ (lt_of_get hbx)).trans hbx
    exact ⟨⟨by simp [World.cell?, hh], by simp [World.cell?, hh], by simp [World.cell?, hh], lt_of_get hh⟩, btr hB0 hx⟩
  have HWT : Hid (type_of% ((h.keep hB0).weight a0 a1)) := (h.keep hB0).weight a0 a1
  unfold hasA
  simp only
  obtain ⟨ow, how⟩ : ∃ ow, weightM n bs R a0 a1 = ow := ⟨_, rfl⟩
  rw [how] at HWT ⊢
  obtain ⟨⟨c0, c1, c2, cs⟩, _⟩ := HX.out W0 (Below.refl _ _)
  clear hW0 hB0 hbx how h
  go_enter Tryz.func71, Tryz.ntmps71
  go_wp2_with fail
  rw [HW0.out]
  refine HWT.out.mono ?_
  rintro e w1 ⟨rfl, hb1⟩
  have HZ : Hid (Below w.heap.size w w1) := (HX.out w1 hb1).2
  obtain ⟨⟨d0, d1, d2, ds⟩, _⟩ := HX.out w1 hb1
  clear hb1 c0 c1 c2 cs HWT
  cases ow with
  | none =>
    go_wp2
    go_ret
    exact ⟨rfl, HZ.out⟩
  | some k =>
    go_wp2
    go_ret
    exact ⟨by simp, HZ.out⟩

set_option maxRecDepth 100000 in
set_option maxHeartbeats 8000000 in
theorem dear_calls (h : IsOv PX B0 w pb n bs R nodes arcs) (i : H3) (hi : 0 ≤ i.2.1 ∧ i.2.1 ≤ 140737488355328) (oo : Option Addr) (oc : Nat) (out : List H3) (hh : HasHs w (.slice oo out.length oc) out) (hw : ∀ a ∈ out, 0 ≤ a.2.1 ∧ a.2.1 ≤ 140737488355328) (hl : out.length ≤ 65536) :
    Calls Tryz.prog 58 #[.pointer (some ⟨pb, 0, none⟩), hV i, .slice oo out.length oc] w fun e w' => ∃ g, e = .returned (.slice (some ⟨g, 0, none⟩) (dearL n bs R i out).length out.length) ∧ w'.ownsRow w.heap.size 89 3 (.slice (some ⟨g, 0, none⟩) (dearL n bs R i out).length out.length) (dearL n bs R i out).length (flatS (dearL n bs R i out)) ∧ Below w.heap.size w w' := by
  obtain ⟨i0, i1, i2⟩ := i
  simp only at hi
  obtain ⟨W0, hW0⟩ : ∃ W0, w.alloc (.cells #[.int .i64 i0, .int .u64 i1, .int .i64 i2] 49) = W0 := ⟨_, rfl⟩
  have HW0 : Hid (w.alloc (.cells #[.int .i64 i0, .int .u64 i1, .int .i64 i2] 49) = W0) := hW0
  have hB0 : Below w.heap.size w W0 := by rw [← hW0]; exact bel_one _ _
  have hbx : W0.heap[w.heap.size]? = some (.cells #[.int .i64 i0, .int .u64 i1, .int .i64 i2] 49) := by rw [← hW0]; exact heap_new _ _
  obtain ⟨cs, hcs, hmk⟩ : ∃ cs : Array Value, cs.size = out.length * 3 ∧ ∀ w, (Instr.makeSlice 38 (.int .i64 0) (.int .i64 (out.length : Int))).run Tryz.prog w = .ok (.slice (some ⟨w.heap.size, 0, none⟩) 0 out.length) (w.alloc (.cells cs 89)) := by
    obtain ⟨q, hq, hzz⟩ := Option.map_eq_some_iff.1 infoS
    simp only [Prod.mk.injEq] at hzz
    obtain ⟨hz, hs, hb⟩ := hzz
    refine ⟨madeCells #[.int .i64 0, .int .i64 0, .int .u64 0] (out.length * 3), by simp [size_madeCells], fun w => ?_⟩
    have hr := run_make (P := Tryz.prog) w 38 89 q _ Tryz.underlying38 hq hz .i64 .i64 0 out.length (by omega) (by omega) (by rw [hb]; omega) (by omega)
    simp only [Int.toNat_natCast, hs] at hr
    rw [hr]
    rfl
  have hs0 : W0.heap.size = w.heap.size + 1 := by rw [← hW0]; simp
  obtain ⟨g, hg⟩ : ∃ g, w.heap.size + 1 = g := ⟨_, rfl⟩
  have HMK : Hid (∀ W1, W0.alloc (.cells cs 89) = W1 → Below w.heap.size w W1 ∧ Below W0.heap.size W0 W1 ∧ W1.ownsRow w.heap.size 89 3 (.slice (some ⟨g, 0, none⟩) 0 out.length) 0 []) := fun W1 e => by
    subst e
    have hb1 : Below W0.heap.size W0 (W0.alloc (.cells cs 89)) := (Below.refl _ _).alloc (Nat.le_refl _) _
    have ho : (W0.alloc (.cells cs 89)).ownsRow W0.heap.size 89 3 (.slice (some ⟨W0.heap.size, 0, none⟩) 0 out.length) 0 [] := World.ownsRow_made W0 cs out.length (Nat.le_refl _) (by unfold maxLen; omega) hcs
    rw [hs0, hg] at ho
    exact ⟨btr hB0 hb1, hb1, ⟨rfl, by
      rcases ho.2 with h0 | ⟨g', cap, cur, e, q1, q2⟩
      · exact Or.inl h0
      · exact Or.inr ⟨g', cap, cur, e, by have := hB0.size; omega, q2⟩⟩⟩
  have HK : Hid (∀ wx, Below W0.heap.size W0 wx → (wx.cell? ⟨w.heap.size, 0, none⟩ = some (.int .i64 i0) ∧ wx.cell? ⟨w.heap.size, 1, none⟩ = some (.int .u64 i1) ∧ w.heap.size < wx.heap.size) ∧ IsOv PX B0 wx pb n bs R nodes arcs ∧ HasHs wx (.slice oo out.length oc) out ∧ Below w.heap.size w wx) := fun wx hx => by
    have hq := (hx.block _ (lt_of_get hbx)).trans hbx
    exact ⟨⟨by simp [World.cell?, hq], by simp [World.cell?, hq], lt_of_get hq⟩, (h.keep hB0).keep hx, (hh.keep hB0).keep hx, btr hB0 hx⟩
  have HWW : Hid ((∀ a ∈ out, 0 ≤ a.2.1 ∧ a.2.1 ≤ 140737488355328) ∧ out.length ≤ 65536 ∧ 0 ≤ i1 ∧ i1 ≤ 140737488355328 ∧ w.heap.size < W0.heap.size) := ⟨hw, hl, hi.1, hi.2, lt_of_get hbx⟩
  clear hW0 hbx hh hw h hi
  unfold hV
  go_enter Tryz.func58, Tryz.ntmps58
  go_upto_region 2 with fail
  rw [HW0.out]
  try rw [hg]
  generalize hW1 : W0.alloc (.cells cs 89) = W1
  have H1 : Hid (type_of% (HMK.out W1 hW1)) := HMK.out W1 hW1
  have HGW : Hid (W0.heap.size = g) := hs0.trans hg
  clear hW1 HMK hmk hcs hB0 hg hs0
  go_wp2_with fail
  go_loopw [16, 7] (fun iv lv wr => ∃ k, k ≤ out.length ∧ iv = .int .i64 (k : Nat) ∧ lv = .slice (some ⟨g, 0, none⟩) (dearL n bs R (i0, i1, i2) (out.take k)).length out.length ∧ wr.ownsRow w.heap.size 89 3 (.slice (some ⟨g, 0, none⟩) (dearL n bs R (i0, i1, i2) (out.take k)).length out.length) (dearL n bs R (i0, i1, i2) (out.take k)).length (flatS (dearL n bs R (i0, i1, i2) (out.take k))) ∧ Below W0.heap.size W0 wr) (fun iv _ _ => out.length - (intOf iv).toNat)
  case atStart => exact ⟨0, Nat.zero_le _, rfl, rfl, H1.out.2.2, H1.out.2.1⟩
  case round =>
    obtain ⟨k, hk, rfl, rfl, ho, hb⟩ := hrel
    have HR : Hid (type_of% (And.intro ho hb)) := ⟨ho, hb⟩
    clear ho hb
    by_cases hlt : k < out.length
    · obtain ⟨a, ha⟩ : ∃ a, out[k]? = some a := ⟨out[k], List.getElem?_eq_getElem hlt⟩
      obtain ⟨b, off, rfl, bl, p0, p1, p2⟩ := (HK.out wr HR.out.2).2.2.1.at ha
      obtain ⟨n0, n1⟩ := HWW.out.1 a (List.mem_of_getElem? ha)
      have HLV : Hid (type_of% (dearL_succ (n := n) (bs := bs) (R := R) (i := (i0, i1, i2)) ha)) := dearL_succ (n := n) (bs := bs) (R := R) (i := (i0, i1, i2)) ha
      have HLL : Hid ((dearL n bs R (i0, i1, i2) (out.take k)).length ≤ k) := by
        show _ ≤ _
        have h1 := dearL_len n bs R (i0, i1, i2) (out.take k)
        rw [List.length_take] at h1
        omega
      obtain ⟨a0, a1, a2⟩ := a
      simp only at p0 p1 p2 n0 n1
      have z0 : 0 ≤ i1 := HWW.out.2.2.1
      have z1 : i1 ≤ 140737488355328 := HWW.out.2.2.2.1
      have iw : IntKind.u64.wrap (i1 + a1) = i1 + a1 := by rw [IntKind.wrap_u64]; omega
      have q1 : (k : Int) < (out.length : Int) := by omega
      have q2 : (0 : Int) ≤ (k : Int) := by omega
      obtain ⟨W2, hW2⟩ : ∃ W2, (wr.alloc (.cells #[.int .i64 a0, .int .u64 a1, .int .i64 a2] 49)) = W2 := ⟨_, rfl⟩
      have HW2 : Hid (wr.alloc (.cells #[.int .i64 a0, .int .u64 a1, .int .i64 a2] 49) = W2) := hW2
      have hb2 : Below wr.heap.size wr W2 := by rw [← hW2]; exact bel_one _ _
      have k2 : W2.heap[wr.heap.size]? = some (.cells #[.int .i64 a0, .int .u64 a1, .int .i64 a2] 49) := by rw [← hW2]; exact heap_new _ _
      have e0 : W2.cell? ⟨wr.heap.size, 0, none⟩ = some (.int .i64 a0) := by simp [World.cell?, k2]
      have e1 : W2.cell? ⟨wr.heap.size, 1, none⟩ = some (.int .u64 a1) := by simp [World.cell?, k2]
      have es := lt_of_get k2
      obtain ⟨W3, hW3⟩ : ∃ W3, (W2.alloc (.cells #[.int .i64 i0, .int .i64 a0, .int .u64 (i1 + a1)] 89)) = W3 := ⟨_, rfl⟩
      have HW3 : Hid (W2.alloc (.cells #[.int .i64 i0, .int .i64 a0, .int .u64 (i1 + a1)] 89) = W3) := hW3
      have hb3 : Below W2.heap.size W2 W3 := by rw [← hW3]; exact bel_one _ _
      have k3 : W3.heap[W2.heap.size]? = some (.cells #[.int .i64 i0, .int .i64 a0, .int .u64 (i1 + a1)] 89) := by rw [← hW3]; exact heap_new _ _
      have HY : Hid (∀ wx, Below W3.heap.size W3 wx → (wx.cell? ⟨W2.heap.size, 0, none⟩ = some (.int .i64 i0) ∧ wx.cell? ⟨W2.heap.size, 1, none⟩ = some (.int .i64 a0) ∧ wx.cell? ⟨W2.heap.size, 2, none⟩ = some (.int .u64 (i1 + a1)) ∧ W2.heap.size < wx.heap.size) ∧ Below wr.heap.size wr wx) := fun wx hx => by
        have hq := (hx.block _ (lt_of_get k3)).trans k3
        exact ⟨⟨by simp [World.cell?, hq], by simp [World.cell?, hq], by simp [World.cell?, hq], lt_of_get hq⟩, btr hb2 (btr hb3 hx)⟩
      have HHA : Hid (type_of% (has_calls (HK.out W3 (btr HR.out.2 (HY.out W3 (Below.refl _ _)).2)).2.1 i0 a0 (i1 + a1))) := has_calls (HK.out W3 (btr HR.out.2 (HY.out W3 (Below.refl _ _)).2)).2.1 i0 a0 (i1 + a1)
      obtain ⟨c0, c1, cz⟩ := (HK.out wr HR.out.2).1
      obtain ⟨f0, f1, fz⟩ := (HK.out W2 (btr HR.out.2 hb2)).1
      clear ha hW2 hW3 hb2 hb3 k2 k3
      go_upto_region 5 with fail
      rw [HW2.out]
      clear c0 c1 cz p0 p1 p2 bl
      go_upto_region 6 with fail
      try rw [iw]
      rw [HW3.out]
      clear f0 f1 fz e0 e1 es
      obtain ⟨⟨d0, d1, d2, dz⟩, _⟩ := HY.out W3 (Below.refl _ _)
      by_cases hne : a0 = i0
      · have HE : Hid (dearL n bs R (i0, i1, i2) (out.take (k + 1)) = dearL n bs R (i0, i1, i2) (out.take k)) := by
          show _ = _
          rw [HLV.out, if_neg (by simp [dearB, hne]), List.append_nil]
        have g1 : (a0 != i0) = false := by simpa using hne
        have HQ : Hid (W3.ownsRow w.heap.size 89 3 (.slice (some ⟨g, 0, none⟩) (dearL n bs R (i0, i1, i2) (out.take k)).length out.length) (dearL n bs R (i0, i1, i2) (out.take k)).length (flatS (dearL n bs R (i0, i1, i2) (out.take k))) ∧ Below W0.heap.size W0 W3) := ⟨row_below9 HR.out.1 (HY.out W3 (Below.refl _ _)).2, btr HR.out.2 (HY.out W3 (Below.refl _ _)).2⟩
        clear hne
        go_wp2
        go_roundw
        case rel => exact ⟨k + 1, by omega, by go_num, by rw [HE.out], by rw [HE.out]; exact HQ.out.1, HQ.out.2⟩
        case measure => simp [intOf]; omega
      · have g1 : (a0 != i0) = true := by simpa using hne
        by_cases hmx : i1 + a1 ≤ 140737488355328
        · have g2 : decide (i1 + a1 ≤ 140737488355328) = true := by simpa using hmx
          go_wp2_with fail
          refine HHA.out.mono ?_
          rintro e w5 ⟨rfl, hb5⟩
          have HQ : Hid (w5.ownsRow w.heap.size 89 3 (.slice (some ⟨g, 0, none⟩) (dearL n bs R (i0, i1, i2) (out.take k)).length out.length) (dearL n bs R (i0, i1, i2) (out.take k)).length (flatS (dearL n bs R (i0, i1, i2) (out.take k))) ∧ Below W0.heap.size W0 w5) := ⟨row_below9 HR.out.1 (btr (HY.out W3 (Below.refl _ _)).2 hb5), btr HR.out.2 (btr (HY.out W3 (Below.refl _ _)).2 hb5)⟩
          clear d0 d1 d2 dz
          obtain ⟨⟨d0, d1, d2, dz⟩, _⟩ := HY.out w5 hb5
          clear hb5 HHA
          obtain ⟨hb, hhb⟩ : ∃ hb, hasA n bs R (i0, a0, i1 + a1) = hb := ⟨_, rfl⟩
          rw [hhb]
          cases hb with
          | true =>
            have HE : Hid (dearL n bs R (i0, i1, i2) (out.take (k + 1)) = dearL n bs R (i0, i1, i2) (out.take k)) := by
              show _ = _
              rw [HLV.out, if_neg (by simp [dearB, wayOf, hhb]), List.append_nil]
            clear hhb hne hmx
            go_wp2
            go_roundw
            case rel => exact ⟨k + 1, by omega, by go_num, by rw [HE.out], by rw [HE.out]; exact HQ.out.1, HQ.out.2⟩
            case measure => simp [intOf]; omega
          | false =>
            have HE : Hid (dearL n bs R (i0, i1, i2) (out.take (k + 1)) = dearL n bs R (i0, i1, i2) (out.take k) ++ [(i0, a0, i1 + a1)]) := by
              show _ = _
              rw [HLV.out, if_pos (by simp [dearB, wayOf, hhb, hne, hmx])]
              rfl
            have hbo : Below w5.heap.size w5 (w5.alloc (.cells #[.int .i64 i0, .int .i64 a0, .int .u64 (i1 + a1)] 89)) := bel_one _ _
            have HAP : Hid ((w5.alloc (.cells #[.int .i64 i0, .int .i64 a0, .int .u64 (i1 + a1)] 89)).ownsRow w.heap.size 89 3 (.slice (some ⟨g, 0, none⟩) (dearL n bs R (i0, i1, i2) (out.take k)).length out.length) (dearL n bs R (i0, i1, i2) (out.take k)).length (flatS (dearL n bs R (i0, i1, i2) (out.take k))) ∧ HasSs (w5.alloc (.cells #[.int .i64 i0, .int .i64 a0, .int .u64 (i1 + a1)] 89)) (.slice (some ⟨w5.heap.size, 0, none⟩) 1 1) [(i0, a0, i1 + a1)] ∧ Below W0.heap.size W0 (w5.alloc (.cells #[.int .i64 i0, .int .i64 a0, .int .u64 (i1 + a1)] 89)) ∧ W0.heap.size ≤ (w5.alloc (.cells #[.int .i64 i0, .int .i64 a0, .int .u64 (i1 + a1)] 89)).heap.size) := ⟨row_below9 HQ.out.1 hbo, ss_one w5 (i0, a0, i1 + a1) _, btr HQ.out.2 hbo, Nat.le_trans HQ.out.2.size hbo.size⟩
            clear hhb hne hmx hbo
            generalize dearL n bs R (i0, i1, i2) (out.take k) = L at *
            go_wp2_with (at_builtin; refine wpList_append_ssR rfl _ _ rfl w.heap.size g out.length L rfl HAP.out.1 ⟨w5.heap.size, 0, none⟩ 1 (i0, a0, i1 + a1) rfl HAP.out.2.1 (by have := HLL.out; omega) ?_; intro w6 hown6 hgr6; have H6 : Hid (w6.ownsRow w.heap.size 89 3 (.slice (some ⟨g, 0, none⟩) (L ++ [(i0, a0, i1 + a1)]).length out.length) (L ++ [(i0, a0, i1 + a1)]).length (flatS (L ++ [(i0, a0, i1 + a1)])) ∧ Below W0.heap.size W0 w6) := ⟨hown6, below_grown9 (v := Value.slice (some ⟨g, 0, none⟩) L.length out.length) HAP.out.2.2.1 (own_base9 HAP.out.1) hgr6 HAP.out.2.2.2 (by have := HGW.out; omega)⟩; clear hown6 hgr6)
            go_roundw
            case rel => exact ⟨k + 1, by omega, by go_num, by rw [HE.out, List.length_append]; rfl, by rw [HE.out]; exact H6.out.1, H6.out.2⟩
            case measure => simp [intOf]; omega
        · have g2 : decide (i1 + a1 ≤ 140737488355328) = false := by simpa using hmx
          have HE : Hid (dearL n bs R (i0, i1, i2) (out.take (k + 1)) = dearL n bs R (i0, i1, i2) (out.take k)) := by
            show _ = _
            rw [HLV.out, if_neg (by simp [dearB, hmx]), List.append_nil]
          have HQ : Hid (W3.ownsRow w.heap.size 89 3 (.slice (some ⟨g, 0, none⟩) (dearL n bs R (i0, i1, i2) (out.take k)).length out.length) (dearL n bs R (i0, i1, i2) (out.take k)).length (flatS (dearL n bs R (i0, i1, i2) (out.take k))) ∧ Below W0.heap.size W0 W3) := ⟨row_below9 HR.out.1 (HY.out W3 (Below.refl _ _)).2, btr HR.out.2 (HY.out W3 (Below.refl _ _)).2⟩
          have g3 : 140737488355328 < i1 + a1 := by omega
          clear hne
          go_wp2
          go_roundw
          case rel => exact ⟨k + 1, by omega, by go_num, by rw [HE.out], by rw [HE.out]; exact HQ.out.1, HQ.out.2⟩
          case measure => simp [intOf]; omega
    · obtain rfl : k = out.length := by omega
      have HT : Hid (out.take out.length = out) := List.take_length
      rw [HT.out] at HR ⊢
      have HZ : Hid (Below w.heap.size w wr) := (HK.out wr HR.out.2).2.2.2
      go_wp2
      go_ret
      exact ⟨g, rfl, HR.out.1, HZ.out⟩
end
end Go.Proofs.YtbkclhaonbjobaaGreat.Wt

namespace Go.Proofs.YtbkclhaonbjobaaGreat.Wt
open Go Go.RowKit Go.Extern Go.Deep

attribute [local go_sem] Oper.semAt_some

/-- what the search must see. -/
def Sees (w : World) (pb n : Nat) (al : Int → Bool) (Z : List (Int × Int × Int)) (skip : Int) : Prop := ∀ wx, Below w.heap.size w wx → ∀ u : Nat, al (u : Int) = true → ∀ (go : Option Addr) (gc : Nat) (gs : List Int), HasInts wx (.slice go gs.length gc) gs → gs.length ≤ 1000 → (∀ g ∈ gs, al g = true) → ∀ mo hops se : Int,
  Calls Tryz.prog 70 #[.pointer (some ⟨pb, 0, none⟩), .int .i64 (u : Int), .int .i64 skip, .slice go gs.length gc, .int .u64 mo, .int .i64 hops, .int .i64 se] wx fun e w' => ∃ db, e = .returned (.tuple #[.slice (some ⟨db, 0, none⟩) gs.length gs.length, .nilIface]) ∧ U64s w' db (gs.map (goalF n Z u hops se mo)) ∧ wx.heap.size ≤ db ∧ Below wx.heap.size wx w'
theorem Sees.keep {w w' : World} {pb n : Nat} {al : Int → Bool} {Z : List (Int × Int × Int)} {skip : Int} (h : Sees w pb n al Z skip) (hb : Below w.heap.size w w') : Sees w' pb n al Z skip := fun wx hx => h wx (btr hb hx)
/-- is no witness seen? -/
def seenB (n : Nat) (Z : List (Int × Int × Int)) (u : Nat) (hops se mo : Int) (a : S3) : Bool := decide (a.2.2 < goalF n Z u hops se mo a.2.1)
def mostS (W : List S3) : Int := W.foldl (fun m a => max m a.2.2) 0
theorem mostS_succ {W : List S3} {i : Nat} {a : S3} (h : W[i]? = some a) : mostS (W.take (i + 1)) = max (mostS (W.take i)) a.2.2 := by
  unfold mostS
  rw [List.take_add_one, h, List.foldl_append]
  rfl
/-- what is left without a witness. -/
def witL (n : Nat) (Z : List (Int × Int × Int)) (hops se : Int) : List S3 → List S3
  | [] => []
  | a :: r => (a :: r).filter (seenB n Z a.1.toNat hops se (mostS (a :: r)))
/-- ends as they are laid. -/
def IntsB (w : World) (b : Nat) (l : List Int) : Prop := w.heap[b]? = some (.cells (l.map (Value.int .i64)).toArray 3)
theorem IntsB.ints {w : World} {b : Nat} {l : List Int} (h : IntsB w b l) (cap : Nat) : HasInts w (.slice (some ⟨b, 0, none⟩) l.length cap) l := by
  refine ⟨_, cap, rfl, fun j q hj => ⟨b, 0, rfl, lt_of_get h, ?_⟩⟩
  rw [Nat.zero_add]
  simp [World.cell?, show w.heap[b]? = _ from h, hj]
theorem IntsB.set {w : World} {b : Nat} {l : List Int} (h : IntsB w b l) (k : Nat) (x : Int) : IntsB (w.setCell ⟨b, k, none⟩ (.int .i64 x)) b (l.set k x) := by
  unfold IntsB
  have e : (w.setCell ⟨b, k, none⟩ (.int .i64 x)).heap[b]? = some (.cells ((l.map (Value.int .i64)).toArray.setIfInBounds k (.int .i64 x)) 3) := by
    simp only [World.setCell, Array.getElem?_modify]
    rw [if_pos trivial, show w.heap[b]? = _ from h]
    rfl
  rw [e]
  congr 2
  apply Array.ext'
  simp [List.map_set]
/-- the ends so far. -/
def goalL (W : List S3) (i : Nat) : List Int := (W.take i).map (·.2.1) ++ List.replicate (W.length - i) 0
theorem goalL_zero (W : List S3) : goalL W 0 = List.replicate W.length 0 := by simp [goalL]
theorem goalL_all (W : List S3) : goalL W W.length = W.map (·.2.1) := by simp [goalL]
theorem goalL_set {W : List S3} {i : Nat} {a : S3} (h : W[i]? = some a) : (goalL W i).set i a.2.1 = goalL W (i + 1) := by
  have hl := (List.getElem?_eq_some_iff.1 h).1
  have h1 : ((W.take i).map (·.2.1)).length = i := by rw [List.length_map, List.length_take]; omega
  unfold goalL
  rw [List.set_append_right _ _ (by omega), h1, Nat.sub_self, List.take_add_one, h]
  rw [show W.length - i = (W.length - (i + 1)) + 1 by omega, List.replicate_succ, List.set_cons_zero]
  simp
theorem goalL_len (W : List S3) {i : Nat} (h : i ≤ W.length) : (goalL W i).length = W.length := by
  unfold goalL
  rw [List.length_append, List.length_map, List.length_take, List.length_replicate]
  omega
/-- the row as it is while it is written over. -/
def overL (p : S3 → Bool) (W : List S3) (i : Nat) : List S3 := (W.take i).filter p ++ W.drop ((W.take i).filter p).length
theorem overL_low (p : S3 → Bool) (W : List S3) (i : Nat) : ((W.take i).filter p).length ≤ i ∧ ((W.take i).filter p).length ≤ W.length := by
  have h := List.length_filter_le p (W.take i)
  rw [List.length_take] at h
  omega
theorem overL_len (p : S3 → Bool) (W : List S3) (i : Nat) : (overL p W i).length = W.length := by
  have h := overL_low p W i
  unfold overL
  rw [List.length_append, List.length_drop]
  omega
theorem overL_at (p : S3 → Bool) (W : List S3) (i : Nat) : (overL p W i)[i]? = W[i]? := by
  have h := overL_low p W i
  unfold overL
  rw [List.getElem?_append_right h.1, List.getElem?_drop]
  congr 1
  omega
theorem overL_yes {p : S3 → Bool} {W : List S3} {i : Nat} {a : S3} (h : W[i]? = some a) (hp : p a = true) : (overL p W i).set ((W.take i).filter p).length a = overL p W (i + 1) ∧ ((W.take (i + 1)).filter p).length = ((W.take i).filter p).length + 1 := by
  have hl := (List.getElem?_eq_some_iff.1 h).1
  have h0 := overL_low p W i
  have e : (W.take (i + 1)).filter p = (W.take i).filter p ++ [a] := by rw [List.take_add_one, h, List.filter_append]; simp [hp]
  unfold overL
  rw [e]
  generalize (W.take i).filter p = F at *
  refine ⟨?_, by simp⟩
  rw [List.set_append_right _ _ (Nat.le_refl _), Nat.sub_self, List.length_append, List.append_assoc]
  congr 1
  have hd : W.drop F.length = W[F.length]'(by omega) :: W.drop (F.length + 1) := List.drop_eq_getElem_cons (by omega)
  rw [hd]
  rfl
theorem overL_no {p : S3 → Bool} {W : List S3} {i : Nat} {a : S3} (h : W[i]? = some a) (hp : p a = false) : (W.take (i + 1)).filter p = (W.take i).filter p := by
  rw [List.take_add_one, h, List.filter_append]
  simp [hp]
theorem own_at9 {w : World} {base g cap : Nat} {M : List S3} (h : w.ownsRow base 89 3 (.slice (some ⟨g, 0, none⟩) M.length cap) M.length (flatS M)) {i : Nat} {a : S3} (ha : M[i]? = some a) : w.cell? ⟨g, i * 3, none⟩ = some (.int .i64 a.1) ∧ w.cell? ⟨g, i * 3 + 1, none⟩ = some (.int .i64 a.2.1) ∧ w.cell? ⟨g, i * 3 + 2, none⟩ = some (.int .u64 a.2.2) ∧ g < w.heap.size := by
  obtain ⟨b, off, e, hl, h0, h1, h2⟩ := (ss_of_row h).at ha
  injection e with e
  injection e with e1 e2 e3
  subst e1 e2
  rw [Nat.zero_add] at h0 h1 h2
  exact ⟨h0, h1, h2, hl⟩
set_option maxRecDepth 100000 in
set_option maxHeartbeats 16000000 in
theorem wit_calls {n pb : Nat} {al : Int → Bool} {Z : List (Int × Int × Int)} {skip : Int} {w : World} (hs : Sees w pb n al Z skip) (B g cap : Nat) (W : List S3) (ho : w.ownsRow B 89 3 (.slice (some ⟨g, 0, none⟩) W.length cap) W.length (flatS W)) (hWl : W.length ≤ 1000) (u : Nat) (hu : al (u : Int) = true) (hWu : ∀ a ∈ W, a.1 = (u : Int) ∧ al a.2.1 = true ∧ 0 ≤ a.2.2 ∧ a.2.2 ≤ 140737488355328) (o0 o1 o2 o3 o4 : Int) :
    Calls Tryz.prog 57 #[.pointer (some ⟨pb, 0, none⟩), .int .i64 skip, .slice (some ⟨g, 0, none⟩) W.length cap, .agg #[.int .i64 o0, .int .i64 o1, .int .i64 o2, .int .i64 o3, .int .i64 o4]] w fun e w' => ∃ so sc, e = .returned (.tuple #[.slice so (witL n Z (min (max o0 0) 1048576) (min (max o1 0) 1048576) W).length sc, .nilIface]) ∧ HasSs w' (.slice so (witL n Z (min (max o0 0) 1048576) (min (max o1 0) 1048576) W).length sc) (witL n Z (min (max o0 0) 1048576) (min (max o1 0) 1048576) W) ∧ (so = none → sc = 0) ∧ Below B w w' := by
  obtain ⟨W0, hW0⟩ : ∃ W0, w.alloc (optObj o0 o1 o2 o3 o4) = W0 := ⟨_, rfl⟩
  have HW0 : Hid (w.alloc (.cells #[.int .i64 o0, .int .i64 o1, .int .i64 o2, .int .i64 o3, .int .i64 o4] 27) = W0) := hW0
  have hB0 : Below w.heap.size w W0 := by rw [← hW0]; exact bel_one _ _
  have hk0 : W0.heap[w.heap.size]? = some (optObj o0 o1 o2 o3 o4) := by rw [← hW0]; exact heap_new _ _
  have hgl : g < w.heap.size := (ho.lt g rfl).2
  have hBg : B ≤ g := (ho.lt g rfl).1
  have hBw : Below B w W0 := hB0.mono (by omega)
  cases W with
  | nil =>
    rw [show witL n Z (min (max o0 0) 1048576) (min (max o1 0) 1048576) [] = [] from rfl]
    have HB : Hid (Below B w W0) := hBw
    clear hW0 hk0 hs ho hWu hBw hB0
    go_enter Tryz.func57, Tryz.ntmps57
    go_upto_region 1 with fail
    rw [HW0.out]
    go_wp2
    go_ret2
    exact ⟨none, 0, rfl, hasSs_nil _ _ _, fun _ => rfl, HB.out⟩
  | cons x r =>
    have hxu : x.1 = (u : Int) := (hWu x (by simp)).1
    rw [show witL n Z (min (max o0 0) 1048576) (min (max o1 0) 1048576) (x :: r) = (x :: r).filter (seenB n Z x.1.toNat (min (max o0 0) 1048576) (min (max o1 0) 1048576) (mostS (x :: r))) from rfl, hxu, Int.toNat_natCast]
    obtain ⟨W, hWW⟩ : ∃ W, x :: r = W := ⟨_, rfl⟩
    have hx0 : W[0]? = some x := by rw [← hWW]; rfl
    have hlen : 0 < W.length := by rw [← hWW]; simp
    rw [hWW] at ho hWl hWu ⊢
    clear hWW
    have hbd := fun wr => wbounds_calls o0 o1 o2 o3 o4 wr
    obtain ⟨hp, hhp⟩ : ∃ hp, min (max o0 0) 1048576 = hp := ⟨_, rfl⟩
    obtain ⟨sp, hsp⟩ : ∃ sp, min (max o1 0) 1048576 = sp := ⟨_, rfl⟩
    rw [hhp, hsp]
    simp only [hhp, hsp] at hbd
    have HBD : Hid (type_of% hbd) := hbd
    obtain ⟨mo, hmo⟩ : ∃ mo, mostS W = mo := ⟨_, rfl⟩
    rw [hmo]
    have HMO : Hid (mostS W = mo) := hmo
    obtain ⟨p, hp9⟩ : ∃ p, seenB n Z u hp sp mo = p := ⟨_, rfl⟩
    have HPD : Hid (∀ a : S3, p a = decide (a.2.2 < goalF n Z u hp sp mo a.2.1)) := fun a => by rw [← hp9]; rfl
    rw [hp9]
    clear hhp hsp hbd hmo hp9
    have hmk := fun wx => run_make_row' (P := Tryz.prog) 25 3 (.int .i64 0) 8 Tryz.underlying25 infoJ8 rfl .i64 .i64 W.length (by omega) (by omega) wx
    obtain ⟨gb, hgb⟩ : ∃ gb, w.heap.size + 1 = gb := ⟨_, rfl⟩
    have hs0 : W0.heap.size = gb := by rw [← hgb, ← hW0]; simp
    obtain ⟨W1, hW1⟩ : ∃ W1, W0.alloc (.cells (madeCells #[.int .i64 0] W.length) 3) = W1 := ⟨_, rfl⟩
    have HW1 : Hid (W0.alloc (.cells (madeCells #[.int .i64 0] W.length) 3) = W1) := hW1
    have hB1 : Below W0.heap.size W0 W1 := by rw [← hW1]; exact bel_one _ _
    have hk1 : IntsB W1 gb (goalL W 0) := by
      unfold IntsB
      rw [goalL_zero, ← hW1, ← hs0, heap_new]
      congr 2
      apply Array.ext'
      rw [toList_madeCells_one]
      simp
    have HG : Hid (w.heap.size < gb ∧ g < w.heap.size ∧ B ≤ g ∧ W.length ≤ 1000 ∧ 0 < W.length ∧ W0.heap.size = gb) := ⟨by omega, hgl, hBg, hWl, hlen, hs0⟩
    have H1 : Hid (IntsB W1 gb (goalL W 0) ∧ Below W0.heap.size W0 W1) := ⟨hk1, hB1⟩
    have HK : Hid (∀ wx, Below W0.heap.size W0 wx → wx.ownsRow B 89 3 (.slice (some ⟨g, 0, none⟩) W.length cap) W.length (flatS W) ∧ Sees wx pb n al Z skip ∧ wx.heap[w.heap.size]? = some (optObj o0 o1 o2 o3 o4) ∧ Below w.heap.size w wx) := fun wx hx => ⟨row_below9 ho (btr hB0 hx), hs.keep (btr hB0 hx), (hx.block _ (lt_of_get hk0)).trans hk0, btr hB0 hx⟩
    have HWU : Hid (al (u : Int) = true ∧ (∀ a ∈ W, a.1 = (u : Int) ∧ al a.2.1 = true ∧ 0 ≤ a.2.2 ∧ a.2.2 ≤ 140737488355328) ∧ W[0]? = some x ∧ x.1 = (u : Int)) := ⟨hu, hWu, hx0, hxu⟩
    have n0 : ((W.length : Int) == 0) = false := beq_eq_false_iff_ne.2 (by omega)
    have n3 : W ≠ [] := fun e => by rw [e] at hlen; exact absurd hlen (Nat.lt_irrefl _)
    have n1 : ¬ W.length = 0 := by omega
    have n2 : (0 : Int) < (W.length : Int) := by omega
    clear hW0 hk0 hs ho hWu hu hW1 hk1 hB0 hB1 hBw hgl hBg hs0 hx0 hxu
    go_enter Tryz.func57, Tryz.ntmps57
    go_upto_region 4 with fail
    rw [HW0.out, HW1.out]
    try rw [hgb]
    clear hmk hgb
    go_wp2_with fail
    go_loopw [29, 11] (fun iv mv wr => ∃ i : Nat, i ≤ W.length ∧ iv = .int .i64 i ∧ mv = .int .u64 (mostS (W.take i)) ∧ IntsB wr gb (goalL W i) ∧ Below W0.heap.size W0 wr) (fun iv _ _ => W.length - (intOf iv).toNat)
    case atStart => exact ⟨0, Nat.zero_le _, rfl, rfl, H1.out.1, H1.out.2⟩
    case round =>
      obtain ⟨i, hi, rfl, rfl, hI, hb⟩ := hrel
      have HB : Hid (IntsB wr gb (goalL W i) ∧ Below W0.heap.size W0 wr) := ⟨hI, hb⟩
      clear hI hb
      by_cases hlt : i < W.length
      · obtain ⟨a, ha⟩ : ∃ a, W[i]? = some a := ⟨W[i], List.getElem?_eq_getElem hlt⟩
        obtain ⟨c0, c1, c2, cl⟩ := own_at9 (HK.out wr HB.out.2).1 ha
        have HMS : Hid (type_of% (mostS_succ ha)) := mostS_succ ha
        have HGS : Hid (type_of% (goalL_set ha)) := goalL_set ha
        obtain ⟨a0, a1, a2⟩ := a
        simp only at c0 c1 c2 HMS HGS
        obtain ⟨W2, hW2⟩ : ∃ W2, wr.alloc (.cells #[.int .i64 a0, .int .i64 a1, .int .u64 a2] 89) = W2 := ⟨_, rfl⟩
        have HW2 : Hid (wr.alloc (.cells #[.int .i64 a0, .int .i64 a1, .int .u64 a2] 89) = W2) := hW2
        have hb2 : Below wr.heap.size wr W2 := by rw [← hW2]; exact bel_one _ _
        have k2 : W2.heap[wr.heap.size]? = some (.cells #[.int .i64 a0, .int .i64 a1, .int .u64 a2] 89) := by rw [← hW2]; exact heap_new _ _
        have hgw : gb < wr.heap.size := lt_of_get HB.out.1
        have hI2 : IntsB W2 gb (goalL W i) := (hb2.block _ hgw).trans HB.out.1
        obtain ⟨q, hq⟩ : ∃ q, (goalL W i)[i]? = some q := ⟨_, List.getElem?_eq_getElem (by rw [goalL_len W hi]; exact hlt)⟩
        have g0 : W2.cell? ⟨gb, i, none⟩ = some (.int .i64 q) := by simp [World.cell?, show W2.heap[gb]? = _ from hI2, hq]
        have g1 : W2.frozen? ⟨gb, i, none⟩ = false := by simp [World.frozen?, show W2.heap[gb]? = _ from hI2]
        have g2 := lt_of_get hI2
        have e1 : W2.cell? ⟨wr.heap.size, 1, none⟩ = some (.int .i64 a1) := by simp [World.cell?, k2]
        have es := lt_of_get k2
        obtain ⟨W3, hW3⟩ : ∃ W3, W2.setCell ⟨gb, i, none⟩ (.int .i64 a1) = W3 := ⟨_, rfl⟩
        have HW3 : Hid (W2.setCell ⟨gb, i, none⟩ (.int .i64 a1) = W3) := hW3
        have hI3 := hI2.set i a1
        have k3 : W3.heap[wr.heap.size]? = some (.cells #[.int .i64 a0, .int .i64 a1, .int .u64 a2] 89) := by rw [← hW3, hso _ (by omega)]; exact k2
        rw [hW3, HGS.out] at hI3
        have hb3 : Below W0.heap.size W0 W3 := by rw [← hW3]; exact (btr HB.out.2 hb2).setCell (p := ⟨gb, i, none⟩) (by show W0.heap.size ≤ gb; have := HG.out.2.2.2.2.2; omega) _
        have H3 : Hid (IntsB W3 gb (goalL W (i + 1)) ∧ Below W0.heap.size W0 W3) := ⟨hI3, hb3⟩
        have f2 : W3.cell? ⟨wr.heap.size, 2, none⟩ = some (.int .u64 a2) := by simp [World.cell?, k3]
        have fs := lt_of_get k3
        have i1 : (i : Int) < (W.length : Int) := by omega
        have i2 : (0 : Int) ≤ (i : Int) := by omega
        have hW1000 := HG.out.2.2.2.1
        clear ha hW2 hb2 k2 hgw hI2 hq hW3 hI3 k3 hb3
        go_upto_region 7 with fail
        rw [HW2.out]
        clear c0 c1 c2 cl
        go_upto_region 8 with fail
        rw [HW3.out]
        clear e1 es g0 g1 g2
        go_wp2
        go_roundw
        case rel => exact ⟨i + 1, by omega, by go_num, by rw [HMS.out], H3.out.1, H3.out.2⟩
        case measure => simp [intOf]; omega
      · obtain rfl : i = W.length := by omega
        rw [goalL_all] at HB
        rw [List.take_length]
        have hob := (HK.out wr HB.out.2).2.2.1
        obtain ⟨c0, c1, cs⟩ := opt_cells hob
        obtain ⟨c2, c3, c4⟩ := opt_all hob
        clear hob
        rw [HMO.out]
        go_wp2_with fail
        refine (HBD.out _).mono ?_
        rintro e w5 ⟨rfl, hb5⟩
        have H5 : Hid (Below W0.heap.size W0 w5 ∧ IntsB w5 gb (W.map (·.2.1))) := ⟨btr HB.out.2 hb5, (hb5.block _ (lt_of_get HB.out.1)).trans HB.out.1⟩
        clear hb5 c0 c1 c2 c3 c4 cs HB
        obtain ⟨c0, _, _, cl⟩ := own_at9 (HK.out w5 H5.out.1).1 HWU.out.2.2.1
        rw [HWU.out.2.2.2, Nat.zero_mul] at c0
        have hlm : (W.map (·.2.1)).length = W.length := List.length_map _
        have hfi := (HK.out w5 H5.out.1).2.1 w5 (Below.refl _ _) u HWU.out.1 (some ⟨gb, 0, none⟩) W.length (W.map (·.2.1)) (H5.out.2.ints _) (by rw [hlm]; exact HG.out.2.2.2.1) (fun y hy => by obtain ⟨a, ha, rfl⟩ := List.mem_map.1 hy; exact (HWU.out.2.1 a ha).2.1) mo hp sp
        have HFI : Hid (type_of% hfi) := hfi
        clear hfi
        rw [hlm] at HFI
        clear hlm
        go_wp2_with fail
        refine HFI.out.mono ?_
        rintro e w6 ⟨db, rfl, hu6, hdb, hb6⟩
        have H6 : Hid (w6.ownsRow B 89 3 (.slice (some ⟨g, 0, none⟩) (overL p W 0).length cap) (overL p W 0).length (flatS (overL p W 0)) ∧ U64s w6 db ((W.map (·.2.1)).map (goalF n Z u hp sp mo)) ∧ Below B w w6 ∧ g < db ∧ ∀ a : S3, p a = decide (a.2.2 < goalF n Z u hp sp mo a.2.1)) := by
          have e : overL p W 0 = W := by simp [overL]
          rw [e]
          refine ⟨row_below9 (HK.out w5 H5.out.1).1 hb6, hu6, (HK.out w6 (btr H5.out.1 hb6)).2.2.2.mono (by have := HG.out; omega), ?_, HPD.out⟩
          have := HG.out
          have := H5.out.1.size
          omega
        clear hu6 hdb hb6 HFI c0 cl
        go_wp2_with fail
        go_loopw [70, 18] (fun iv lv wr => ∃ i : Nat, i ≤ W.length ∧ iv = .int .i64 i ∧ lv = .slice (some ⟨g, 0, none⟩) ((W.take i).filter p).length cap ∧ wr.ownsRow B 89 3 (.slice (some ⟨g, 0, none⟩) (overL p W i).length cap) (overL p W i).length (flatS (overL p W i)) ∧ U64s wr db ((W.map (·.2.1)).map (goalF n Z u hp sp mo)) ∧ Below B w wr) (fun iv _ _ => W.length - (intOf iv).toNat)
        case atStart => exact ⟨0, Nat.zero_le _, rfl, by simp, H6.out.1, H6.out.2.1, H6.out.2.2.1⟩
        case round =>
          obtain ⟨i, hi, rfl, rfl, hO, hU, hb⟩ := hrel
          have HB : Hid (type_of% (And.intro hO (And.intro hU hb))) := ⟨hO, hU, hb⟩
          clear hO hU hb
          by_cases hlt : i < W.length
          · obtain ⟨a, ha⟩ : ∃ a, W[i]? = some a := ⟨W[i], List.getElem?_eq_getElem hlt⟩
            obtain ⟨c0, c1, c2, cl⟩ := own_at9 HB.out.1 ((overL_at p W i).trans ha)
            have hm1 : ((W.map (·.2.1)).map (goalF n Z u hp sp mo))[i]? = some (goalF n Z u hp sp mo a.2.1) := by rw [List.getElem?_map, List.getElem?_map, ha]; rfl
            obtain ⟨d0, dl, _⟩ := HB.out.2.1.at hm1
            have hpa := H6.out.2.2.2.2 a
            have HY : Hid (p a = true → (overL p W i).set ((W.take i).filter p).length a = overL p W (i + 1) ∧ ((W.take (i + 1)).filter p).length = ((W.take i).filter p).length + 1) := fun h => overL_yes ha h
            have HN : Hid (p a = false → (W.take (i + 1)).filter p = (W.take i).filter p) := fun h => overL_no ha h
            obtain ⟨a0, a1, a2⟩ := a
            simp only at c0 c1 c2 hpa d0 hm1
            obtain ⟨A, hA⟩ : ∃ A, goalF n Z u hp sp mo a1 = A := ⟨_, rfl⟩
            rw [hA] at d0 hpa
            obtain ⟨W2, hW2⟩ : ∃ W2, wr.alloc (.cells #[.int .i64 a0, .int .i64 a1, .int .u64 a2] 89) = W2 := ⟨_, rfl⟩
            have HW2 : Hid (wr.alloc (.cells #[.int .i64 a0, .int .i64 a1, .int .u64 a2] 89) = W2) := hW2
            have hb2 : Below wr.heap.size wr W2 := by rw [← hW2]; exact bel_one _ _
            have k2 : W2.heap[wr.heap.size]? = some (.cells #[.int .i64 a0, .int .i64 a1, .int .u64 a2] 89) := by rw [← hW2]; exact heap_new _ _
            have h0 : W2.cell? ⟨db, i, none⟩ = some (.int .u64 A) := (hb2.cell (p := ⟨db, i, none⟩) dl).trans d0
            have hl0 := Nat.lt_of_lt_of_le dl hb2.size
            have e0 : W2.cell? ⟨wr.heap.size, 0, none⟩ = some (.int .i64 a0) := by simp [World.cell?, k2]
            have e1 : W2.cell? ⟨wr.heap.size, 1, none⟩ = some (.int .i64 a1) := by simp [World.cell?, k2]
            have e2 : W2.cell? ⟨wr.heap.size, 2, none⟩ = some (.int .u64 a2) := by simp [World.cell?, k2]
            have es := lt_of_get k2
            have H2 : Hid (W2.ownsRow B 89 3 (.slice (some ⟨g, 0, none⟩) (overL p W i).length cap) (overL p W i).length (flatS (overL p W i)) ∧ U64s W2 db ((W.map (·.2.1)).map (goalF n Z u hp sp mo)) ∧ Below B w W2 ∧ B ≤ W2.heap.size) := ⟨row_below9 HB.out.1 hb2, (hb2.block _ (lt_of_get HB.out.2.1)).trans HB.out.2.1, HB.out.2.2.trans (hb2.mono (by have := HG.out; have := HB.out.2.2.size; omega)), by have := HG.out; have := HB.out.2.2.size; have := hb2.size; omega⟩
            have i1 : (i : Int) < (W.length : Int) := by omega
            have i2 : (0 : Int) ≤ (i : Int) := by omega
            have hW1000 := HG.out.2.2.2.1
            have HLO : Hid (((W.take i).filter p).length < (overL p W i).length) := by have := overL_low p W i; have := overL_len p W i; show _ < _; omega
            clear ha hm1 hA hW2 hb2 k2 d0 dl
            go_upto_region 18 with fail
            rw [HW2.out]
            clear c0 c1 c2 cl
            obtain ⟨qb, hqb⟩ : ∃ qb, decide (a2 < A) = qb := ⟨_, rfl⟩
            rw [hqb] at hpa
            cases qb with
            | false =>
              have HE : Hid (((W.take (i + 1)).filter p) = ((W.take i).filter p)) := HN.out hpa
              have HEO : Hid (overL p W (i + 1) = overL p W i) := by show _ = _; unfold overL; rw [HE.out]
              have hq2 : ¬ a2 < A := by simpa using hqb
              go_quiet (fail)
              have H8 : Hid ((W2.drewN nq).ownsRow B 89 3 (.slice (some ⟨g, 0, none⟩) (overL p W i).length cap) (overL p W i).length (flatS (overL p W i)) ∧ U64s (W2.drewN nq) db ((W.map (·.2.1)).map (goalF n Z u hp sp mo)) ∧ Below B w (W2.drewN nq)) := ⟨row_below9 H2.out.1 (below_drewN (Below.refl _ _) nq), H2.out.2.1, below_drewN H2.out.2.2.1 nq⟩
              go_wp2
              go_roundw
              case rel => exact ⟨i + 1, by omega, by go_num, by rw [HE.out], by rw [HEO.out]; exact H8.out.1, H8.out.2.1, H8.out.2.2⟩
              case measure => simp [intOf]; omega
            | true =>
              have HE : Hid ((overL p W i).set ((W.take i).filter p).length (a0, a1, a2) = overL p W (i + 1) ∧ ((W.take (i + 1)).filter p).length = ((W.take i).filter p).length + 1 ∧ (overL p W i).length = (overL p W (i + 1)).length) := ⟨(HY.out hpa).1, (HY.out hpa).2, by rw [overL_len, overL_len]⟩
              have hq2 : a2 < A := by simpa using hqb
              go_quiet (fail)
              have hbo : Below (W2.drewN nq).heap.size (W2.drewN nq) ((W2.drewN nq).alloc (.cells #[.int .i64 a0, .int .i64 a1, .int .u64 a2] 89)) := bel_one _ _
              have HAP : Hid (((W2.drewN nq).alloc (.cells #[.int .i64 a0, .int .i64 a1, .int .u64 a2] 89)).ownsRow B 89 3 (.slice (some ⟨g, 0, none⟩) (overL p W i).length cap) (overL p W i).length (flatS (overL p W i)) ∧ HasSs ((W2.drewN nq).alloc (.cells #[.int .i64 a0, .int .i64 a1, .int .u64 a2] 89)) (.slice (some ⟨(W2.drewN nq).heap.size, 0, none⟩) 1 1) [(a0, a1, a2)] ∧ U64s ((W2.drewN nq).alloc (.cells #[.int .i64 a0, .int .i64 a1, .int .u64 a2] 89)) db ((W.map (·.2.1)).map (goalF n Z u hp sp mo)) ∧ Below B w ((W2.drewN nq).alloc (.cells #[.int .i64 a0, .int .i64 a1, .int .u64 a2] 89)) ∧ B ≤ ((W2.drewN nq).alloc (.cells #[.int .i64 a0, .int .i64 a1, .int .u64 a2] 89)).heap.size) := ⟨row_below9 (row_below9 H2.out.1 (below_drewN (Below.refl _ _) nq)) hbo, ss_one (W2.drewN nq) (a0, a1, a2) _, (hbo.block _ (lt_of_get H2.out.2.1)).trans H2.out.2.1, (below_drewN H2.out.2.2.1 nq).trans (hbo.mono H2.out.2.2.2), Nat.le_trans H2.out.2.2.2 hbo.size⟩
              clear hbo
              go_wp2_with (at_builtin; refine wpList_append_ssI rfl _ _ rfl B g cap ((W.take i).filter p).length (overL p W i) rfl HAP.out.1 HLO.out ⟨W2.heap.size, 0, none⟩ 1 (a0, a1, a2) rfl HAP.out.2.1 ?_; intro w7 hown7 hgr7; have H7 : Hid (w7.ownsRow B 89 3 (.slice (some ⟨g, 0, none⟩) (overL p W (i + 1)).length cap) (overL p W (i + 1)).length (flatS (overL p W (i + 1))) ∧ U64s w7 db ((W.map (·.2.1)).map (goalF n Z u hp sp mo)) ∧ Below B w w7) := ⟨by rw [HE.out.1, HE.out.2.2] at hown7; exact hown7, (hgr7.block db (lt_of_get HAP.out.2.2.1) (fun e => by have := H6.out.2.2.2.1; simp at e; omega)).trans HAP.out.2.2.1, below_grown9 (v := Value.slice (some ⟨g, 0, none⟩) (overL p W i).length cap) HAP.out.2.2.2.1 HAP.out.1 hgr7 HAP.out.2.2.2.2 (Nat.le_refl _)⟩; clear hown7 hgr7)
              go_roundw
              case rel => exact ⟨i + 1, by omega, by go_num, by rw [HE.out.2.1], H7.out.1, H7.out.2.1, H7.out.2.2⟩
              case measure => simp [intOf]; omega
          · obtain rfl : i = W.length := by omega
            have HZ : Hid (HasSs wr (.slice (some ⟨g, 0, none⟩) (W.filter p).length cap) (W.filter p) ∧ Below B w wr) := by
              have h1 := own_head HB.out.1 (c := (W.filter p).length) (by rw [overL_len]; exact List.length_filter_le _ _)
              have e : (overL p W W.length).take (W.filter p).length = W.filter p := by unfold overL; rw [List.take_length, List.take_left]
              rw [e] at h1
              exact ⟨ss_of_row h1, HB.out.2.2⟩
            rw [List.take_length]
            go_wp2
            go_ret2
            exact ⟨_, cap, rfl, HZ.out.1, (fun e => by cases e), HZ.out.2⟩
end Go.Proofs.YtbkclhaonbjobaaGreat.Wt
