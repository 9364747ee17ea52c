/- rows as the reference keeps them; lines, step by step. -/
import Derived.Test.YtghbekpilhnkfaaDoorGtP
namespace Go.Proofs.YtghbekpilhnkfaaDoor.Gt
open Go Go.Lib Go.RowKit Go.Extern Hi

/-- a line, one byte on. -/
theorem line_step {l : By} {k : Nat} {b : UInt8} (h : l[k]? = some b) (hb : b ≠ 10) : lineOf (l.drop k) = b :: lineOf (l.drop (k + 1)) ∧ restOf (l.drop k) = restOf (l.drop (k + 1)) := by
  rw [drop_at h]
  unfold lineOf restOf
  rw [List.takeWhile_cons, List.dropWhile_cons, if_pos (by simpa using hb), if_pos (by simpa using hb)]
  exact ⟨rfl, rfl⟩
theorem line_stop {l : By} {k : Nat} (h : l[k]? = some 10) : lineOf (l.drop k) = [] ∧ restOf (l.drop k) = l.drop (k + 1) := by
  rw [drop_at h]
  exact ⟨rfl, rfl⟩
theorem line_end {l : By} {k : Nat} (h : l.length ≤ k) : lineOf (l.drop k) = [] ∧ restOf (l.drop k) = l.drop (k + 1) := by
  rw [List.drop_eq_nil_of_le h, List.drop_eq_nil_of_le (by omega)]
  exact ⟨rfl, rfl⟩
theorem take_more {l : By} {a e : Nat} {b : UInt8} (h : l[e]? = some b) (ha : a ≤ e) : (l.drop a).take (e + 1 - a) = (l.drop a).take (e - a) ++ [b] := by
  rw [show e + 1 - a = (e - a) + 1 by omega, List.take_add_one, List.getElem?_drop, show a + (e - a) = e by omega, h]
  rfl

/-- a row in memory, as the reference keeps it: its line, where its words lie, their room, the words. -/
abbrev Rr := Nat × Nat × Nat × List ByteArray
def rowOfR (q : Rr) : Row := (q.1, q.2.2.2.map bs)
def rcsR (Q : List Rr) : List Value := Q.flatMap fun q => [.int .i64 (q.1 : Int), .slice (some ⟨q.2.1, 0, none⟩) q.2.2.2.length q.2.2.1]
theorem rcsR_append (l r : List Rr) : rcsR (l ++ r) = rcsR l ++ rcsR r := by simp [rcsR]
theorem rcsR_one (l : List Rr) : ∀ u ∈ rcsR l, u.oneCell' = true := by
  intro u hu
  simp [rcsR] at hu
  obtain ⟨a, b, c, d, _, rfl | rfl⟩ := hu <;> rfl
theorem rcsR_get : ∀ (l : List Rr) (i : Nat) (a : Rr), l[i]? = some a → (rcsR l)[i * 2]? = some (.int .i64 (a.1 : Int)) ∧ (rcsR l)[i * 2 + 1]? = some (.slice (some ⟨a.2.1, 0, none⟩) a.2.2.2.length a.2.2.1)
  | [], i, a, h => by simp at h
  | s :: l, 0, a, h => by
    simp at h
    subst h
    simp [rcsR]
  | s :: l, i + 1, a, h => by
    obtain ⟨h0, h1⟩ := rcsR_get l i a (by simpa using h)
    have e : rcsR (s :: l) = [.int .i64 (s.1 : Int), .slice (some ⟨s.2.1, 0, none⟩) s.2.2.2.length s.2.2.1] ++ rcsR l := rfl
    have key : ∀ c, (rcsR (s :: l))[(i + 1) * 2 + c]? = (rcsR l)[i * 2 + c]? := fun c => by
      rw [e, List.getElem?_append_right (by simp; omega)]
      congr 1
      simp
      omega
    exact ⟨(key 0).trans h0, (key 1).trans h1⟩
def StR (w : World) (q : Rr) : Prop := StAt w (q.1, q.2.1, q.2.2.2) ∧ q.2.2.2.length ≤ q.2.2.1
def FewR (q : Rr) : Prop := Few (q.1, q.2.1, q.2.2.2)
structure RowsJ (w wr : World) (rv : Value) (Q : List Rr) : Prop where
  own : wr.ownsRow w.heap.size 117 2 rv Q.length (rcsR Q)
  bel : Below w.heap.size w wr
  wds : ∀ q ∈ Q, StR wr q
  few : ∀ q ∈ Q, FewR q
theorem infoRowR : (Tryd.prog.info? 117).map (fun i => (i.zero, i.size, i.bytes)) = some (some (.agg #[.int .i64 0, .slice none 0 0]), 2, 32) := by kernel_rfl
theorem rownR_keep {w w' : World} {B n : Nat} {v : Value} {xs : List Value} (h : w.ownsRow B 117 2 v n xs) (hk : ∀ (k : Nat) (cur : Array Value), w.heap[k]? = some (.cells cur 117) → w'.heap[k]? = some (.cells cur 117)) : w'.ownsRow B 117 2 v n xs := by
  rcases h.2 with ⟨e, h0⟩ | ⟨g, cap, cur, e, hg, hh, r⟩
  · exact ⟨h.1, .inl ⟨e, h0⟩⟩
  · exact ⟨h.1, .inr ⟨g, cap, cur, e, hg, hk g cur hh, r⟩⟩
theorem RowsJ.up {w wr wx : World} {rv : Value} {Q : List Rr} (h : RowsJ w wr rv Q) (hb : Below wr.heap.size wr wx) : RowsJ w wx rv Q :=
  ⟨rownR_keep h.own fun _ _ hh => (hb.block _ (Array.getElem?_eq_some_iff.1 hh).1).trans hh, h.bel.trans (hb.mono h.bel.size), fun q hq => ⟨(h.wds q hq).1.keep hb, (h.wds q hq).2⟩, h.few⟩
theorem rr_ne : 9 ≠ 117 ∧ 117 ≠ 32 ∧ 9 ≠ 32 ∧ 66 ≠ 32 := by decide
theorem RowsJ.add {w wx w5 : World} {rv v5 : Value} {Q : List Rr} {q : Rr} (h : RowsJ w wx rv Q) (hq : StR wx q) (hq0 : FewR q) (ho : w5.ownsRow w.heap.size 117 2 v5 (Q.length + 1) (rcsR Q ++ rcsR [q])) (hg : wx.grownBy w5 rv.ownBlock) : RowsJ w w5 v5 (Q ++ [q]) := by
  have far : ∀ p : Rr, StR wx p → StR w5 p := fun p hp => by
    obtain ⟨⟨cur, h1, h2⟩, h3⟩ := hp
    have hlt := (Array.getElem?_eq_some_iff.1 h1).1
    refine ⟨⟨cur, (hg.block _ hlt (fun e => ?_)).trans h1, h2⟩, h3⟩
    rcases h.own.2 with ⟨e2, _⟩ | ⟨g, cap, c2, e2, _, hh, _⟩
    · rw [e2] at e; cases e
    · rw [e2] at e
      have e3 : p.2.1 = g := Option.some.inj e
      exact at_ne h1 hh rr_ne.1 e3
  refine ⟨?_, ?_, fun p hp => ?_, fun p hp => ?_⟩
  · rw [rcsR_append, List.length_append]
    exact ho
  · exact ⟨hg.os.trans h.bel.os, hg.tape.trans h.bel.tape, hg.output.trans h.bel.output, Nat.le_trans h.bel.size hg.size, fun k hk => (hg.block k (Nat.lt_of_lt_of_le hk h.bel.size) (fun e => by have := (h.own.lt k e.symm).1; omega)).trans (h.bel.block k hk)⟩
  · rcases List.mem_append.1 hp with hp | hp
    · exact far p (h.wds p hp)
    · rw [List.mem_singleton.1 hp]; exact far q hq
  · rcases List.mem_append.1 hp with hp | hp
    · exact h.few p hp
    · rw [List.mem_singleton.1 hp]; exact hq0
/-- words in memory are a row's. -/
theorem str_atR {w : World} {B lc : Nat} {lo : Option Addr} {X : List ByteArray} (n : Nat) (h : w.ownsRow B 9 1 (.slice lo X.length lc) X.length (X.map Value.string)) (hX : X ≠ []) : ∃ A, lo = some ⟨A, 0, none⟩ ∧ StR w (n, A, lc, X) := by
  rcases h.2 with ⟨e, h0⟩ | ⟨g, cap, cur, e, _, hh, hc, _, _, ht⟩
  · exact absurd (List.eq_nil_of_length_eq_zero h0) hX
  · cases e
    refine ⟨g, rfl, ⟨cur, hh, fun i x hx => ?_⟩, hc⟩
    have g1 : (cur.toList.take (X.length * 1))[i]? = some (.string x) := by rw [ht, List.getElem?_map, hx]; rfl
    rw [List.getElem?_take] at g1
    split at g1
    · rwa [Array.getElem?_toList] at g1
    · cases g1
/-- places in memory, in a block of places. -/
def RefPl (w : World) (sl : Value) (ps : List (Int × Int)) : Prop := HasPlaces w sl ps ∧ (ps = [] ∨ ∃ (g n m : Nat) (c : Array Value), sl = .slice (some ⟨g, 0, none⟩) n m ∧ w.heap[g]? = some (.cells c 66))
theorem RefPl.keep {w w' : World} {sl : Value} {ps : List (Int × Int)} (h : RefPl w sl ps) (hb : Below w.heap.size w w') : RefPl w' sl ps := by
  refine ⟨h.1.keep hb, h.2.imp id ?_⟩
  rintro ⟨g, n, m, c, e, hg⟩
  exact ⟨g, n, m, c, e, (hb.block _ (Array.getElem?_eq_some_iff.1 hg).1).trans hg⟩
/-- .. and they stay where a block of another kind is written. -/
theorem RefPl.far {w w' : World} {sl : Value} {ps : List (Int × Int)} (h : RefPl w sl ps) (hk : ∀ (g : Nat) (c : Array Value), w.heap[g]? = some (.cells c 66) → w'.heap[g]? = some (.cells c 66)) : RefPl w' sl ps := by
  obtain ⟨⟨ao, cap, e, hc⟩, h2⟩ := h
  rcases h2 with rfl | ⟨g, n, m, c, e2, hg⟩
  · exact ⟨⟨ao, cap, e, fun j p hj => by simp at hj⟩, Or.inl rfl⟩
  · have hg2 := hk g c hg
    refine ⟨⟨ao, cap, e, fun j p hj => ?_⟩, Or.inr ⟨g, n, m, c, e2, hg2⟩⟩
    obtain ⟨b, off, ea, hl, h0, h1⟩ := hc j p hj
    rw [e] at e2
    injection e2 with e3
    rw [ea] at e3
    injection e3 with e3
    injection e3 with e4 e5
    subst e4
    refine ⟨b, off, ea, (Array.getElem?_eq_some_iff.1 hg2).1, ?_, ?_⟩
    · simp only [World.cell?, hg] at h0
      simp only [World.cell?, hg2]
      exact h0
    · simp only [World.cell?, hg] at h1
      simp only [World.cell?, hg2]
      exact h1
/-- an error of the reference in memory. -/
def IsRef (w : World) (e : Int × List (Int × Int)) (v : Value) : Prop := ∃ (lo : Option Addr) (lc : Nat), v = .agg #[.int .i64 e.1, .slice lo e.2.length lc] ∧ RefPl w (.slice lo e.2.length lc) e.2
theorem IsRef.keep {w w' : World} {e : Int × List (Int × Int)} {v : Value} (h : IsRef w e v) (hb : Below w.heap.size w w') : IsRef w' e v := by
  obtain ⟨lo, lc, e1, e2⟩ := h
  exact ⟨lo, lc, e1, e2.keep hb⟩
/-- a result's box is set. -/
theorem RowsJ.set {w wr : World} {rv x y : Value} {Q : List Rr} {z : Nat} {c : Array Value} (h : RowsJ w wr rv Q) (hz : wr.heap[z]? = some (.cells c 32)) (B : Nat) (hB : B ≤ w.heap.size) (hBz : B ≤ z) : ((wr.setCell ⟨z, 0, none⟩ x).setCell ⟨z, 1, none⟩ y).ownsRow B 117 2 rv Q.length (rcsR Q) ∧ (∀ q ∈ Q, StR ((wr.setCell ⟨z, 0, none⟩ x).setCell ⟨z, 1, none⟩ y) q) ∧ Below B w ((wr.setCell ⟨z, 0, none⟩ x).setCell ⟨z, 1, none⟩ y) := by
  have far : ∀ j, j ≠ z → ((wr.setCell ⟨z, 0, none⟩ x).setCell ⟨z, 1, none⟩ y).heap[j]? = wr.heap[j]? := fun j hj => (Below.heap_setCell _ _ _ _ (by exact hj)).trans (Below.heap_setCell _ _ _ _ (by exact hj))
  have sz : ((wr.setCell ⟨z, 0, none⟩ x).setCell ⟨z, 1, none⟩ y).heap.size = wr.heap.size := by simp [World.setCell]
  refine ⟨?_, fun q hq => ?_, ⟨h.bel.os, h.bel.tape, h.bel.output, by rw [sz]; exact h.bel.size, fun j hj => (far j (by omega)).trans (h.bel.block j (by omega))⟩⟩
  · have g := rownR_keep (w' := ((wr.setCell ⟨z, 0, none⟩ x).setCell ⟨z, 1, none⟩ y)) h.own fun k cur hh => (far k (at_ne hh hz rr_ne.2.1)).trans hh
    rcases g.2 with ⟨e, h0⟩ | ⟨g1, cap, cur, e, hg, r⟩
    · exact ⟨g.1, .inl ⟨e, h0⟩⟩
    · exact ⟨g.1, .inr ⟨g1, cap, cur, e, Nat.le_trans hB hg, r⟩⟩
  · obtain ⟨⟨cur, h1, h2⟩, h3⟩ := h.wds q hq
    exact ⟨⟨cur, (far _ (at_ne h1 hz rr_ne.2.2.1)).trans h1, h2⟩, h3⟩
theorem rows_noneR (w wr : World) (hb : Below w.heap.size w wr) : RowsJ w wr (.slice none 0 0) [] := ⟨World.ownsRow_nil _ _ _ _, hb, (fun q hq => by cases hq), (fun q hq => by cases hq)⟩
/-- what DocRows answers. -/
def DrA (t : By) (w : World) (e : Ending) (w' : World) : Prop := ∃ (u : Value) (ro : Option Addr) (rc : Nat) (Q : List Rr), e = .returned (.tuple #[.slice ro Q.length rc, u]) ∧ IsRef w' (rowsE t) u ∧ w'.ownsRow w.heap.size 117 2 (.slice ro Q.length rc) Q.length (rcsR Q) ∧ (∀ q ∈ Q, StR w' q) ∧ (∀ q ∈ Q, FewR q) ∧ Below w.heap.size w w' ∧ Q.length ≤ 1048577 ∧ Q.map rowOfR = (if rowsE t = (0, []) then rowsR t else [])
end Go.Proofs.YtghbekpilhnkfaaDoor.Gt
