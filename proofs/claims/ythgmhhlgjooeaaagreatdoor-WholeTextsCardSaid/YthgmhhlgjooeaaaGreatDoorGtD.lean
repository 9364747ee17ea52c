/- scan's Rows, walked. -/
import Derived.Test.YthgmhhlgjooeaaaGreatDoorGtC
import Derived.Test.YthgmhhlgjooeaaaGreatDoorCheck
import Derived.Maps.AppendAt
import Derived.Maps.OwnIn
namespace Go.Proofs.YthgmhhlgjooeaaaGreatDoor.Gt
open Go Go.Lib Go.RowKit Go.Extern

attribute [local go_sem] Oper.semAt_some

theorem heap_newG (w : World) (o : Obj) : (w.alloc o).heap[w.heap.size]? = some o := by
  show (w.heap.push o)[w.heap.size]? = _
  simp
theorem told_noG (w : World) : IsTold w (0, []) .nilIface := Or.inl ⟨rfl, rfl⟩
theorem told_numG (w : World) {c : Int} (hc : c ≠ 0) : IsTold w (c, []) (.iface 29 (.int .i64 c)) := Or.inr ⟨hc, rfl⟩
theorem told_atG (w : World) {c p k : Int} (hc : c ≠ 0) : IsTold (w.alloc (.cells #[.int .i64 p, .int .i64 k, .iface 29 (.int .i64 c)] 48)) (c, [(p, k)]) (.iface 41 (.pointer (some ⟨w.heap.size, 0, none⟩))) :=
  Or.inr ⟨hc, _, _, rfl, heap_newG w _, rfl⟩
theorem infoRow : (Tryz.prog.info? 115).map (fun i => (i.zero, i.size, i.bytes)) = some (some (.agg #[.int .i64 0, .slice none 0 0]), 2, 32) := by kernel_rfl
/-- a row in memory: its line, where its words lie, the words. -/
abbrev Rw := Nat × Nat × List ByteArray
def rowOf (q : Rw) : Row := (q.1, q.2.2.map bs)
/-- the cells of rows. -/
def rcs (Q : List Rw) : List Value := Q.flatMap fun q => [.int .i64 (q.1 : Int), .slice (some ⟨q.2.1, 0, none⟩) q.2.2.length q.2.2.length]
theorem rcs_append (l r : List Rw) : rcs (l ++ r) = rcs l ++ rcs r := by simp [rcs]
theorem rcs_one (l : List Rw) : ∀ u ∈ rcs l, u.oneCell' = true := by
  intro u hu
  simp [rcs] at hu
  obtain ⟨a, b, c, _, rfl | rfl⟩ := hu <;> rfl
theorem rcs_get : ∀ (l : List Rw) (i : Nat) (a : Rw), l[i]? = some a → (rcs l)[i * 2]? = some (.int .i64 (a.1 : Int)) ∧ (rcs l)[i * 2 + 1]? = some (.slice (some ⟨a.2.1, 0, none⟩) a.2.2.length a.2.2.length)
  | [], i, a, h => by simp at h
  | s :: l, 0, a, h => by
    simp at h
    subst h
    simp [rcs]
  | s :: l, i + 1, a, h => by
    obtain ⟨h0, h1⟩ := rcs_get l i a (by simpa using h)
    have e : rcs (s :: l) = [.int .i64 (s.1 : Int), .slice (some ⟨s.2.1, 0, none⟩) s.2.2.length s.2.2.length] ++ rcs l := rfl
    have key : ∀ c, (rcs (s :: l))[(i + 1) * 2 + c]? = (rcs l)[i * 2 + c]? := fun c => by
      rw [e, List.getElem?_append_right (by simp; omega)]
      congr 1
      simp
      omega
    exact ⟨(key 0).trans h0, (key 1).trans h1⟩
/-- the words of a row, in memory. -/
def StAt (w : World) (q : Rw) : Prop := ∃ cur : Array Value, w.heap[q.2.1]? = some (.cells cur 9) ∧ ∀ (i : Nat) (x : ByteArray), q.2.2[i]? = some x → cur[i]? = some (.string x)
/-- a row has words, not many, none of them long. -/
def Few (q : Rw) : Prop := q.2.2 ≠ [] ∧ q.2.2.length ≤ 200 ∧ ∀ x ∈ q.2.2, x.size ≤ 200
/-- rows in memory. -/
structure RowsI (w wr : World) (rv : Value) (Q : List Rw) : Prop where
  own : wr.ownsRow w.heap.size 115 2 rv Q.length (rcs Q)
  bel : Below w.heap.size w wr
  wds : ∀ q ∈ Q, StAt wr q
  few : ∀ q ∈ Q, Few q
theorem StAt.keep {w w' : World} {q : Rw} (h : StAt w q) (hb : Below w.heap.size w w') : StAt w' q := by
  obtain ⟨cur, h1, h2⟩ := h
  exact ⟨cur, (hb.block _ (Array.getElem?_eq_some_iff.1 h1).1).trans h1, h2⟩
theorem rown_keep {w w' : World} {B n : Nat} {v : Value} {xs : List Value} (h : w.ownsRow B 115 2 v n xs) (hb : Below w.heap.size w w') : w'.ownsRow B 115 2 v n xs := by
  rcases h.2 with ⟨e, h0⟩ | ⟨g, cap, cur, e, hg, hh, r⟩
  · exact ⟨h.1, .inl ⟨e, h0⟩⟩
  · exact ⟨h.1, .inr ⟨g, cap, cur, e, hg, (hb.block g (Array.getElem?_eq_some_iff.1 hh).1).trans hh, r⟩⟩
theorem RowsI.up {w wr wx : World} {rv : Value} {Q : List Rw} (h : RowsI w wr rv Q) (hb : Below wr.heap.size wr wx) : RowsI w wx rv Q :=
  ⟨rown_keep h.own hb, h.bel.trans (hb.mono h.bel.size), fun q hq => (h.wds q hq).keep hb, h.few⟩
theorem str_ne : 9 ≠ 115 := by decide
/-- a row more. -/
theorem RowsI.add {w wx w5 : World} {rv v5 : Value} {Q : List Rw} {q : Rw} (h : RowsI w wx rv Q) (hq : StAt wx q) (hq0 : Few q) (ho : w5.ownsRow w.heap.size 115 2 v5 (Q.length + 1) (rcs Q ++ rcs [q])) (hg : wx.grownBy w5 rv.ownBlock) : RowsI w w5 v5 (Q ++ [q]) := by
  have far : ∀ p : Rw, StAt wx p → StAt w5 p := fun p hp => by
    obtain ⟨cur, h1, h2⟩ := hp
    have hlt := (Array.getElem?_eq_some_iff.1 h1).1
    refine ⟨cur, (hg.block _ hlt (fun e => ?_)).trans h1, h2⟩
    rcases h.own.2 with ⟨e2, _⟩ | ⟨g, cap, c2, e2, _, hh, _⟩
    · rw [e2] at e; cases e
    · rw [e2] at e
      have e3 : p.2.1 = g := Option.some.inj e
      rw [e3, hh] at h1
      injection h1 with h1
      injection h1 with _ h1
      exact str_ne h1.symm
  refine ⟨?_, ?_, fun p hp => ?_, fun p hp => ?_⟩
  · rw [rcs_append, List.length_append]
    exact ho
  · exact ⟨hg.os.trans h.bel.os, hg.tape.trans h.bel.tape, hg.output.trans h.bel.output, Nat.le_trans h.bel.size hg.size, fun k hk => (hg.block k (Nat.lt_of_lt_of_le hk h.bel.size) (fun e => by have := (h.own.lt k e.symm).1; omega)).trans (h.bel.block k hk)⟩
  · rcases List.mem_append.1 hp with hp | hp
    · exact far p (h.wds p hp)
    · rw [List.mem_singleton.1 hp]; exact far q hq
  · rcases List.mem_append.1 hp with hp | hp
    · exact h.few p hp
    · rw [List.mem_singleton.1 hp]; exact hq0
theorem str_at {w : World} {B A : Nat} {X : List ByteArray} {n : Nat} (h : w.ownsRow B 9 1 (.slice (some ⟨A, 0, none⟩) X.length X.length) X.length (X.map Value.string)) : StAt w (n, A, X) := by
  rcases h.2 with ⟨e, _⟩ | ⟨g, cap, cur, e, _, hh, _, _, _, ht⟩
  · cases e
  · injection e with e1 _ _
    injection e1 with e1
    injection e1 with e1 _ _
    subst e1
    refine ⟨cur, hh, fun i x hx => ?_⟩
    have hi := (List.getElem?_eq_some_iff.1 hx).1
    have g1 : (cur.toList.take (X.length * 1))[i]? = some (.string x) := by rw [ht, List.getElem?_map, hx]; rfl
    rw [List.getElem?_take] at g1
    split at g1
    · rwa [Array.getElem?_toList] at g1
    · cases g1
/-- what Rows answers. -/
def RwA (t : By) (w : World) (e : Ending) (w' : World) : Prop := ∃ (u : Value) (ro : Option Addr) (rc : Nat) (Q : List Rw), e = .returned (.tuple #[.slice ro Q.length rc, u]) ∧ IsTold w' (rowsE t) u ∧ RowsI w w' (.slice ro Q.length rc) Q ∧ Q.length ≤ 1048577 ∧ Q.map rowOf = (if rowsE t = (0, []) then rowsR t else [])
def szS : Value → Nat
  | .string s => s.size
  | _ => 0
end Go.Proofs.YthgmhhlgjooeaaaGreatDoor.Gt
