/- rows of halves of one's own, and what append makes of them. -/
import Derived.Test.YtbkclhaonbjobaaGreatCheck
import Derived.OwnWalk
import Derived.Lib.AppendZeros
import Derived.Laws.AppendOwnNone
import Derived.Deep.RegionLaw
namespace Go.Proofs.YtbkclhaonbjobaaGreat
open Go.RowKit Go.Extern Go.Sort

attribute [local go_sem] Oper.semAt_some

/-- halves in memory. -/
def HasHs (w : World) (lv : Value) (xs : List (Int × Int × Int)) : Prop :=
  ∃ ao cap, lv = .slice ao xs.length cap ∧ ∀ j a, xs[j]? = some a → ∃ b off, ao = some ⟨b, off, none⟩ ∧ b < w.heap.size ∧ w.cell? ⟨b, off + j * 3, none⟩ = some (.int .i64 a.1) ∧ w.cell? ⟨b, off + j * 3 + 1, none⟩ = some (.int .u64 a.2.1) ∧ w.cell? ⟨b, off + j * 3 + 2, none⟩ = some (.int .i64 a.2.2)
theorem HasHs.keep {w w' : World} {lv : Value} {xs : List (Int × Int × Int)} (h : HasHs w lv xs) (hb : Below w.heap.size w w') : HasHs w' lv xs := by
  obtain ⟨ao, cap, e, hc⟩ := h
  refine ⟨ao, cap, e, fun j a hj => ?_⟩
  obtain ⟨b, off, e1, hl, h0, h1, h2⟩ := hc j a hj
  exact ⟨b, off, e1, Nat.lt_of_lt_of_le hl hb.size, (hb.cell (p := ⟨b, _, none⟩) hl).trans h0, (hb.cell (p := ⟨b, _, none⟩) hl).trans h1, (hb.cell (p := ⟨b, _, none⟩) hl).trans h2⟩
theorem HasHs.at {w : World} {ao : Option Addr} {n cap : Nat} {xs : List (Int × Int × Int)} (h : HasHs w (.slice ao n cap) xs) {k : Nat} {a : Int × Int × Int} (hp : xs[k]? = some a) :
    ∃ b off, ao = some ⟨b, off, none⟩ ∧ b < w.heap.size ∧ w.cell? ⟨b, off + k * 3, none⟩ = some (.int .i64 a.1) ∧ w.cell? ⟨b, off + k * 3 + 1, none⟩ = some (.int .u64 a.2.1) ∧ w.cell? ⟨b, off + k * 3 + 2, none⟩ = some (.int .i64 a.2.2) := by
  obtain ⟨ao', cap', e, hc⟩ := h
  injection e with e1 e2 e3
  subst e1
  exact hc k a hp
theorem Tryz.infoH : (Tryz.prog.info? 49).map (fun i => (i.zero, i.size, i.bytes)) = some (some (.agg #[.int .i64 0, .int .u64 0, .int .i64 0]), 3, 24) := by kernel_rfl
/-- the cells of arcs. -/
def flatH (l : List (Int × Int × Int)) : List Value := l.flatMap fun a => [.int .i64 a.1, .int .u64 a.2.1, .int .i64 a.2.2]
theorem flatH_len (l : List (Int × Int × Int)) : (flatH l).length = l.length * 3 := by
  induction l with
  | nil => rfl
  | cons a r ih => simp only [flatH, List.flatMap_cons, List.length_append, List.length_cons] at *; rw [ih]; simp; omega
theorem flatH_append (l r : List (Int × Int × Int)) : flatH (l ++ r) = flatH l ++ flatH r := by simp [flatH]
theorem flatH_get : ∀ (l : List (Int × Int × Int)) (i : Nat) (a : Int × Int × Int), l[i]? = some a → (flatH l)[i * 3]? = some (.int .i64 a.1) ∧ (flatH l)[i * 3 + 1]? = some (.int .u64 a.2.1) ∧ (flatH l)[i * 3 + 2]? = some (.int .i64 a.2.2)
  | [], i, a, h => by simp at h
  | b :: r, 0, a, h => by
    simp at h
    subst h
    simp [flatH]
  | b :: r, i + 1, a, h => by
    have ih := flatH_get r i a (by simpa using h)
    have e : flatH (b :: r) = [.int .i64 b.1, .int .u64 b.2.1, .int .i64 b.2.2] ++ flatH r := by simp [flatH]
    rw [e, show (i + 1) * 3 = i * 3 + 3 by omega]
    refine ⟨?_, ?_, ?_⟩
    · rw [List.getElem?_append_right (by simp)]; simpa using ih.1
    · rw [List.getElem?_append_right (by simp)]; simpa [show i * 3 + 3 + 1 - 3 = i * 3 + 1 by omega] using ih.2.1
    · rw [List.getElem?_append_right (by simp)]; simpa [show i * 3 + 3 + 2 - 3 = i * 3 + 2 by omega] using ih.2.2
theorem flatH_one (l : List (Int × Int × Int)) : ∀ u ∈ flatH l, u.oneCell' = true := by
  intro u hu
  simp only [flatH, List.mem_flatMap] at hu
  obtain ⟨a, _, ha⟩ := hu
  simp at ha
  rcases ha with rfl | rfl | rfl <;> rfl
theorem flatH_at {w : World} {a : Addr} {n cap : Nat} {xs : List (Int × Int × Int)} (h : HasHs w (.slice (some a) n cap) xs) : ∀ j u, (flatH xs)[j]? = some u → w.cell? (a.add j) = some u := by
  intro j u hj
  have hlt := (List.getElem?_eq_some_iff.1 hj).1
  rw [flatH_len] at hlt
  have hx : xs[j / 3]? = some xs[j / 3] := List.getElem?_eq_getElem (by omega)
  obtain ⟨b, off, e, _, h0, h1, h2⟩ := h.at hx
  obtain ⟨g0, g1, g2⟩ := flatH_get xs (j / 3) _ hx
  obtain rfl : a = ⟨b, off, none⟩ := Option.some.inj e
  have ea : (⟨b, off, none⟩ : Addr).add j = ⟨b, off + j, none⟩ := by unfold Addr.add; split <;> simp_all
  rw [ea]
  rcases (show j = j / 3 * 3 ∨ j = j / 3 * 3 + 1 ∨ j = j / 3 * 3 + 2 by omega) with hj' | hj' | hj'
  · rw [hj'] at hj ⊢; rw [g0] at hj; cases hj; exact h0
  · rw [hj'] at hj ⊢; rw [g1] at hj; cases hj; exact h1
  · rw [hj'] at hj ⊢; rw [g2] at hj; cases hj; exact h2
theorem hs_of_rowH {w : World} {base : Nat} {v : Value} {l : List (Int × Int × Int)} (h : w.ownsRow base 49 3 v l.length (flatH l)) : HasHs w v l := by
  rcases h.2 with ⟨e, h0⟩ | ⟨g, cap, cur, rfl, hg, hh, _⟩
  · have : l = [] := List.eq_nil_of_length_eq_zero h0
    subst this
    exact ⟨none, 0, e, fun j p hj => by simp at hj⟩
  · refine ⟨_, cap, rfl, fun j a hj => ⟨g, 0, rfl, lt_of_get hh, ?_⟩⟩
    have hlt := (List.getElem?_eq_some_iff.1 hj).1
    obtain ⟨g0, g1, g2⟩ := flatH_get l j a hj
    rw [Nat.zero_add]
    exact ⟨(h.cellAt (j * 3) (by omega)).trans g0, (h.cellAt (j * 3 + 1) (by omega)).trans g1, (h.cellAt (j * 3 + 2) (by omega)).trans g2⟩
theorem rowH_slice {w : World} {base n : Nat} {xs : List Value} {v : Value} (h : w.ownsRow base 49 3 v n xs) : ∃ ao cap, v = .slice ao n cap := by
  rcases h.2 with ⟨h, h'⟩ | ⟨g, cap, cur, h, _⟩
  · exact ⟨none, 0, by rw [h']; exact h⟩
  · exact ⟨_, cap, h⟩

/-- a list of arcs is appended to a row of one's own. -/
theorem wpList_append_hs {w : World} {ops : Array Oper} {rest : List Oper} {o : Oper} {a : Act} {Q : Exit → Act → World → Prop} (hgd : o.guard = none) (s x : Operand)
    (ho : o.op = .call { callee := .builtin .append, args := #[s, x], argTypes := #[45, 45] })
    (base : Nat) (v : Value) (L : List (Int × Int × Int)) (hs : a.eval s = v) (hown : w.ownsRow base 49 3 v L.length (flatH L))
    (ao : Option Addr) (ac : Nat) (xs : List (Int × Int × Int)) (hx : a.eval x = .slice ao xs.length ac) (hl : HasHs w (.slice ao xs.length ac) xs) (hno : ao = none → ac = 0)
    (hlen : L.length + xs.length ≤ 1048576) (hbase : base ≤ w.heap.size)
    (h : ∀ v' w', w'.ownsRow base 49 3 v' (L ++ xs).length (flatH (L ++ xs)) → w.grownBy w' v.ownBlock → wpList Tryz.prog ops Q rest (a.put o.dst v') w') : wpList Tryz.prog ops Q (o :: rest) a w := by
  obtain ⟨i0, hi, hz0, hz1, hz2⟩ : ∃ i, Tryz.prog.info? 49 = some i ∧ i.zero = some (.agg #[.int .i64 0, .int .u64 0, .int .i64 0]) ∧ i.size = 3 ∧ i.bytes = 24 := by
    have h := Tryz.infoH
    cases hi : Tryz.prog.info? 49 with
    | none => rw [hi] at h; cases h
    | some i => rw [hi] at h; simp at h; exact ⟨i, rfl, h.1, h.2.1, h.2.2⟩
  cases ao with
  | none =>
    have hc := hno rfl
    subst hc
    have hx0 : xs = [] := by
      cases xs with
      | nil => rfl
      | cons q r => obtain ⟨b, off, e, _⟩ := hl.at (k := 0) (a := q) rfl; cases e
    subst hx0
    refine wpList_append_own_none hgd s x 45 ho base 49 i0 3 Tryz.underlying45 hi v L.length (flatH L) hs hown hx ?_
    exact h v w (by simpa using hown) ⟨rfl, rfl, rfl, Nat.le_refl _, fun _ _ _ => rfl⟩
  | some ad =>
    refine wpList_append_own _ hgd s x 45 ho base 49 i0 _ 3 24 Tryz.underlying45 hi hz0 hz1 hz2 rfl (by decide) v L.length (flatH L) hs hown ad xs.length ac (flatH xs) hx (flatH_len xs) (flatH_at hl) (flatH_one xs) (by unfold maxLen; omega) (by omega) hbase ?_
    intro v' w' h1 h2 _
    exact h v' w' (by rw [List.length_append, flatH_append]; exact h1) h2

/-- one arc in a block of its own. -/
theorem hs_one (w : World) (a : Int × Int × Int) (T : TypeId) : HasHs (w.alloc (.cells #[.int .i64 a.1, .int .u64 a.2.1, .int .i64 a.2.2] T)) (.slice (some ⟨w.heap.size, 0, none⟩) 1 1) [a] := by
  have h := heap_new w (.cells #[.int .i64 a.1, .int .u64 a.2.1, .int .i64 a.2.2] T)
  generalize w.alloc (.cells #[.int .i64 a.1, .int .u64 a.2.1, .int .i64 a.2.2] T) = W at h ⊢
  refine ⟨_, _, rfl, fun j x hj => ?_⟩
  cases j with
  | zero =>
    simp at hj
    subst hj
    exact ⟨_, 0, rfl, lt_of_get h, by simp [World.cell?, h], by simp [World.cell?, h], by simp [World.cell?, h]⟩
  | succ j => simp at hj
/-- a row of one's own is kept where its block is. -/
theorem rowH_keep {w w' : World} {base n : Nat} {xs : List Value} {v : Value} (h : w.ownsRow base 49 3 v n xs) (hk : Below w.heap.size w w') : w'.ownsRow base 49 3 v n xs := by
  obtain ⟨h1, h2⟩ := h
  refine ⟨h1, ?_⟩
  rcases h2 with h2 | ⟨g, cap, cur, e, hb, hh, r⟩
  · exact Or.inl h2
  · exact Or.inr ⟨g, cap, cur, e, hb, (hk.block g (lt_of_get hh)).trans hh, r⟩
theorem belowH_grown {w0 w w' : World} {base n : Nat} {xs : List Value} {v : Value} (hb : Below base w0 w) (h : w.ownsRow base 49 3 v n xs) (hg : w.grownBy w' v.ownBlock) (hs : base ≤ w.heap.size) : Below base w0 w' :=
  hb.trans ⟨hg.os, hg.tape, hg.output, hg.size, fun j hj => hg.block j (Nat.lt_of_lt_of_le hj hs) (fun e => by have := (h.lt j e.symm).1; omega)⟩

end Go.Proofs.YtbkclhaonbjobaaGreat
