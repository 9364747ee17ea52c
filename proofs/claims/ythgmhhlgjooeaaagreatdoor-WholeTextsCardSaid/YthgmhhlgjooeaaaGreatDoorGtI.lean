/- gtext's graph of rows: what it answers; the state of its walk. -/
import Derived.Test.YthgmhhlgjooeaaaGreatDoorGtH
namespace Go.Proofs.YthgmhhlgjooeaaaGreatDoor.Gt
open Go Go.Lib Go.RowKit Go.Extern Hi

/-- the bounds of the numbers of the first row, and of an arc's row. -/
def bG : List (Nat × Int) := [(65537, 9), (262145, 9)]
def bA (N : Nat) : List (Nat × Int) := [(N, 7), (N, 7), (2147483648, 8)]
def gwd : By := [103, 114, 97, 112, 104]
def awd : By := [97, 114, 99]
def ewd : By := [101, 110, 100]
abbrev Arc3 := Int × Int × Int
/-- by which error the row at a place is refused. -/
def rE (R : List Row) (k : Nat) (word : By) (B : List (Nat × Int)) : Int := match R[k]? with
  | none => 5
  | some r => rowE r.2 word B
/-- the line of the row that was taken last, k having been taken. -/
def lnK (R : List Row) : Nat → Nat
  | 0 => 0
  | j + 1 => (R.getD j (0, [])).1
/-- .. and where the row at a place was asked for. -/
def lnE (R : List Row) (k : Nat) : Nat := if k < R.length then lnK R (k + 1) else lnK R k
def wdK (R : List Row) (k j : Nat) : By := ((R.getD k (0, [])).2).getD j []
def arcK (R : List Row) (k : Nat) : Arc3 := ((val (wdK R k 1) : Int), (val (wdK R k 2) : Int), (val (wdK R k 3) : Int))
/-- the arcs of rows from a place on, m of them being wanted. -/
def gF (R : List Row) (N : Nat) : Nat → Nat → List Arc3 → (Int × Nat) × List Arc3
  | 0, k, acc => if rE R k ewd [] ≠ 0 then ((rE R k ewd [], lnE R k), []) else if k + 1 < R.length then ((6, lnK R (k + 2)), []) else ((0, 0), acc)
  | m + 1, k, acc => if rE R k awd (bA N) ≠ 0 then ((rE R k awd (bA N), lnE R k), []) else gF R N m (k + 1) (acc ++ [arcK R k])
/-- the graph that rows are, or an error and its line. -/
def gR (R : List Row) : (Int × Nat) × Nat × List Arc3 :=
  if rE R 0 gwd bG ≠ 0 then ((rE R 0 gwd bG, lnE R 0), 0, [])
  else if (gF R (val (wdK R 0 1)) (val (wdK R 0 2)) 1 []).1.1 = 0 then ((0, 0), val (wdK R 0 1), (gF R (val (wdK R 0 1)) (val (wdK R 0 2)) 1 []).2)
  else ((gF R (val (wdK R 0 1)) (val (wdK R 0 2)) 1 []).1, 0, [])
theorem row_num {ws : List By} {word : By} {B : List (Nat × Int)} (h : rowE ws word B = 0) : ws.length = 1 + B.length ∧ ∀ (j : Nat) (b : Nat × Int), B[j]? = some b → val (ws.getD (j + 1) []) < b.1 ∨ b.2 = 0 := by
  unfold rowE at h
  split at h
  · cases h
  · split at h
    · cases h
    · split at h
      · cases h
      · rename_i h1 h2 h3
        refine ⟨by omega, ?_⟩
        have key : ∀ (vs : List By) (bd : List (Nat × Int)), numsE vs bd = 0 → bd.length ≤ vs.length → ∀ (j : Nat) (b : Nat × Int), bd[j]? = some b → val (vs.getD j []) < b.1 ∨ b.2 = 0 := by
          intro vs
          induction vs with
          | nil => intro bd _ hl j b hj; have := (List.getElem?_eq_some_iff.1 hj).1; simp at hl; subst hl; simp at hj
          | cons v vs ih =>
            intro bd hn hl j b hj
            cases bd with
            | nil => simp at hj
            | cons c bd =>
              rw [numsE] at hn
              split at hn
              · rename_i hz
                cases j with
                | zero =>
                  simp at hj
                  subst hj
                  unfold bnE at hz
                  split at hz
                  · split at hz
                    · rename_i h9; exact Or.inl h9
                    · exact Or.inr hz
                  · cases hz
                | succ j => exact ih bd hn (by simpa using hl) j b (by simpa using hj)
              · rename_i hz
                exact absurd hn hz
        intro j b hj
        have g := key (ws.drop 1) B h (by rw [List.length_drop]; omega) j b hj
        rw [List.getD_eq_getElem?_getD, List.getElem?_drop] at g
        rw [List.getD_eq_getElem?_getD, Nat.add_comm]
        exact g
/-- the cells of arcs. -/
def acs (l : List Arc3) : List Value := l.flatMap fun a => [.int .i64 a.1, .int .i64 a.2.1, .int .i64 a.2.2]
theorem acs_append (l r : List Arc3) : acs (l ++ r) = acs l ++ acs r := by simp [acs]
theorem acs_one (l : List Arc3) : ∀ u ∈ acs l, u.oneCell' = true := by
  intro u hu
  simp [acs] at hu
  obtain ⟨a, b, c, _, rfl | rfl | rfl⟩ := hu <;> rfl
theorem acs_get : ∀ (l : List Arc3) (i : Nat) (a : Arc3), l[i]? = some a → (acs l)[i * 3]? = some (.int .i64 a.1) ∧ (acs l)[i * 3 + 1]? = some (.int .i64 a.2.1) ∧ (acs l)[i * 3 + 2]? = some (.int .i64 a.2.2)
  | [], i, a, h => by simp at h
  | s :: l, 0, a, h => by
    simp at h
    subst h
    simp [acs]
  | s :: l, i + 1, a, h => by
    obtain ⟨h0, h1, h2⟩ := acs_get l i a (by simpa using h)
    have e : acs (s :: l) = [.int .i64 s.1, .int .i64 s.2.1, .int .i64 s.2.2] ++ acs l := rfl
    have key : ∀ c, (acs (s :: l))[(i + 1) * 3 + c]? = (acs l)[i * 3 + c]? := fun c => by
      rw [e, List.getElem?_append_right (by simp; omega)]
      congr 1
      simp
      omega
    exact ⟨(key 0).trans h0, (key 1).trans h1, (key 2).trans h2⟩
theorem infoArc : (Tryz.prog.info? 50).map (fun i => (i.zero, i.size, i.bytes)) = some (some (.agg #[.int .i64 0, .int .i64 0, .int .i64 0]), 3, 24) := by kernel_rfl
theorem arcs_of {w : World} {B : Nat} {ao : Option Addr} {ac : Nat} {A : List Arc3} (h : w.ownsRow B 50 3 (.slice ao A.length ac) A.length (acs A)) : HasArcs w (.slice ao A.length ac) A := by
  refine ⟨ao, ac, rfl, fun j a hj => ?_⟩
  have hlt := (List.getElem?_eq_some_iff.1 hj).1
  obtain ⟨g0, g1, g2⟩ := acs_get _ j _ hj
  rcases h.2 with ⟨e, h0⟩ | ⟨g, cap, cur, e, _, hh, _⟩
  · omega
  · cases e
    refine ⟨g, 0, rfl, (Array.getElem?_eq_some_iff.1 hh).1, ?_, ?_, ?_⟩
    · rw [Nat.zero_add]; exact (h.cellAt (j * 3) (by omega)).trans g0
    · rw [Nat.zero_add]; exact (h.cellAt (j * 3 + 1) (by omega)).trans g1
    · rw [Nat.zero_add]; exact (h.cellAt (j * 3 + 2) (by omega)).trans g2
theorem gr_ne : 24 ≠ 74 ∧ 50 ≠ 74 ∧ 50 ≠ 24 ∧ 74 ≠ 24 ∧ 120 ≠ 24 ∧ 115 ≠ 24 ∧ 9 ≠ 24 ∧ 74 ≠ 50 ∧ 120 ≠ 50 ∧ 115 ≠ 50 ∧ 9 ≠ 50 ∧ 24 ≠ 50 := by decide
/-- the state of graph's walk. -/
structure GrS (w : World) (z rb : Nat) (Q : List Rw) (k line gb N b7 b8 : Nat) (sv av : Value) (A : List Arc3) (wr : World) : Prop where
  rd : Rd wr rb Q k line
  off : Off rb w wr
  res : wr.heap[z]? = some (.cells #[.int .i64 0, .slice none 0 0] 24)
  gbx : wr.heap[gb]? = some (.cells #[.int .i64 (N : Int), sv] 24)
  own : wr.ownsRow w.heap.size 50 3 av A.length (acs A)
  bd7 : wr.heap[b7]? = some (.cells #[.int .u64 (N : Int), .int .i64 7] 120)
  bd8 : wr.heap[b8]? = some (.cells #[.int .u64 2147483648, .int .i64 8] 120)
  zlt : w.heap.size ≤ z ∧ w.heap.size ≤ gb ∧ gb ≠ z
theorem at_ne {wr : World} {j g : Nat} {c d : Array Value} {T U : TypeId} (hj : wr.heap[j]? = some (.cells c T)) (hg : wr.heap[g]? = some (.cells d U)) (hT : T ≠ U) : j ≠ g := fun e => by
  rw [e, hg] at hj
  injection hj with hj
  injection hj with _ hj
  exact hT hj.symm
theorem aown_keep {w w' : World} {B n : Nat} {v : Value} {xs : List Value} (h : w.ownsRow B 50 3 v n xs) (hk : ∀ (k : Nat) (cur : Array Value), w.heap[k]? = some (.cells cur 50) → w'.heap[k]? = some (.cells cur 50)) : w'.ownsRow B 50 3 v n xs := by
  rcases h.2 with ⟨e, h0⟩ | ⟨g, cap, cur, e, hg, hh, r⟩
  · exact ⟨h.1, .inl ⟨e, h0⟩⟩
  · exact ⟨h.1, .inr ⟨g, cap, cur, e, hg, hk g cur hh, r⟩⟩
variable {w wr wx : World} {z rb k line k' line' gb N b7 b8 : Nat} {Q : List Rw} {sv av : Value} {A : List Arc3}
theorem GrS.up (h : GrS w z rb Q k line gb N b7 b8 sv av A wr) (hb : Below wr.heap.size wr wx) : GrS w z rb Q k line gb N b7 b8 sv av A wx := by
  have kp : ∀ {j : Nat} {c : Array Value} {T : TypeId}, wr.heap[j]? = some (.cells c T) → wx.heap[j]? = some (.cells c T) := fun hj => (hb.block _ (Array.getElem?_eq_some_iff.1 hj).1).trans hj
  exact ⟨h.rd.keep hb, h.off.trans (Off.of hb), kp h.res, kp h.gbx, aown_keep h.own fun _ _ hh => kp hh, kp h.bd7, kp h.bd8, h.zlt⟩
/-- a row was taken. -/
theorem GrS.took (h : GrS w z rb Q k line gb N b7 b8 sv av A wr) (ho : Off rb wr wx) (hr : Rd wx rb Q k' line') : GrS w z rb Q k' line' gb N b7 b8 sv av A wx := by
  obtain ⟨ro, rc, b1, _⟩ := h.rd.box
  have kp : ∀ {j : Nat} {c : Array Value} {T : TypeId}, T ≠ 74 → wr.heap[j]? = some (.cells c T) → wx.heap[j]? = some (.cells c T) := fun hT hj => (ho.block _ (Array.getElem?_eq_some_iff.1 hj).1 (at_ne hj b1 hT)).trans hj
  exact ⟨hr, h.off.trans ho, kp gr_ne.1 h.res, kp gr_ne.1 h.gbx, aown_keep h.own fun _ _ hh => kp gr_ne.2.1 hh, kp bd_ne.1 h.bd7, kp bd_ne.1 h.bd8, h.zlt⟩
/-- an arc more in memory; the graph does not name it yet. -/
theorem GrS.grow {w5 : World} {v5 : Value} {a : Arc3} (h : GrS w z rb Q k line gb N b7 b8 sv av A wx) (ho : w5.ownsRow w.heap.size 50 3 v5 (A.length + 1) (acs A ++ acs [a])) (hg : wx.grownBy w5 av.ownBlock) :
    GrS w z rb Q k line gb N b7 b8 sv v5 (A ++ [a]) w5 ∧ ∀ {j : Nat} {c : Array Value} {T : TypeId}, T ≠ 50 → wx.heap[j]? = some (.cells c T) → w5.heap[j]? = some (.cells c T) := by
  have far : ∀ {j : Nat} {c : Array Value} {T : TypeId}, T ≠ 50 → wx.heap[j]? = some (.cells c T) → w5.heap[j]? = some (.cells c T) := fun {j c T} hT hj => by
    refine (hg.block _ (Array.getElem?_eq_some_iff.1 hj).1 (fun e => ?_)).trans hj
    rcases h.own.2 with ⟨e2, _⟩ | ⟨g, cap, c2, e2, _, hh, _⟩
    · rw [e2] at e; cases e
    · rw [e2] at e
      have e3 : j = g := Option.some.inj e
      exact at_ne hj hh hT e3
  obtain ⟨ro, rc, b1, b2, b3⟩ := h.rd.box
  refine ⟨⟨⟨⟨ro, rc, far gr_ne.2.2.2.2.2.2.2.1 b1, b2, fun hk => ?_⟩, fun q hq => ?_, h.rd.few⟩, ⟨hg.os.trans h.off.os, hg.tape.trans h.off.tape, hg.output.trans h.off.output, Nat.le_trans h.off.size hg.size, fun j hj hn => (hg.block j (Nat.lt_of_lt_of_le hj h.off.size) (fun e => by have := (h.own.lt j e.symm).1; omega)).trans (h.off.block j hj hn)⟩, far gr_ne.2.2.2.2.2.2.2.2.2.2.2 h.res, far gr_ne.2.2.2.2.2.2.2.2.2.2.2 h.gbx, ?_, far gr_ne.2.2.2.2.2.2.2.2.1 h.bd7, far gr_ne.2.2.2.2.2.2.2.2.1 h.bd8, h.zlt⟩, far⟩
  · obtain ⟨b, e, c2, g1, g2⟩ := b3 hk
    exact ⟨b, e, c2, far gr_ne.2.2.2.2.2.2.2.2.2.1 g1, g2⟩
  · obtain ⟨c2, g1, g2⟩ := h.rd.wds q hq
    exact ⟨c2, far gr_ne.2.2.2.2.2.2.2.2.2.2.1 g1, g2⟩
  · rw [acs_append, List.length_append]
    exact ho
theorem set_oneG {W : World} {b : Nat} {p q : Value} {T : TypeId} (h : W.heap[b]? = some (.cells #[p, q] T)) (y : Value) : (W.setCell ⟨b, 1, none⟩ y).heap[b]? = some (.cells #[p, y] T) := by
  simp only [World.setCell, Array.getElem?_modify]
  simp [h]
/-- .. and now it does. -/
theorem GrS.store (h : GrS w z rb Q k line gb N b7 b8 sv av A wx) : GrS w z rb Q k line gb N b7 b8 av av A (wx.setCell ⟨gb, 1, none⟩ av) := by
  have far : ∀ j, j ≠ gb → (wx.setCell ⟨gb, 1, none⟩ av).heap[j]? = wx.heap[j]? := fun j hj => Below.heap_setCell _ _ _ _ (by exact hj)
  have sz : (wx.setCell ⟨gb, 1, none⟩ av).heap.size = wx.heap.size := by simp [World.setCell]
  have kp : ∀ {j : Nat} {c : Array Value} {T : TypeId}, T ≠ 24 → wx.heap[j]? = some (.cells c T) → (wx.setCell ⟨gb, 1, none⟩ av).heap[j]? = some (.cells c T) := fun hT hj => (far _ (at_ne hj h.gbx hT)).trans hj
  obtain ⟨ro, rc, b1, b2, b3⟩ := h.rd.box
  refine ⟨⟨⟨ro, rc, kp gr_ne.2.2.2.1 b1, b2, fun hk => ?_⟩, fun q hq => ?_, h.rd.few⟩, ⟨h.off.os, h.off.tape, h.off.output, by rw [sz]; exact h.off.size, fun j hj hn => (far j (by have := h.zlt.2.1; omega)).trans (h.off.block j hj hn)⟩, (far z (by have := h.zlt.2.2; omega)).trans h.res, set_oneG h.gbx _, aown_keep h.own fun _ _ hh => kp gr_ne.2.2.1 hh, kp gr_ne.2.2.2.2.1 h.bd7, kp gr_ne.2.2.2.2.1 h.bd8, h.zlt⟩
  · obtain ⟨b, e, c2, g1, g2⟩ := b3 hk
    exact ⟨b, e, c2, kp gr_ne.2.2.2.2.2.1 g1, g2⟩
  · obtain ⟨c2, g1, g2⟩ := h.rd.wds q hq
    exact ⟨c2, kp gr_ne.2.2.2.2.2.2.1 g1, g2⟩
/-- three numbers in a block. -/
def Nm3 (w : World) (g v1 v2 v3 : Nat) : Prop := ∃ cur : Array Value, w.heap[g]? = some (.cells cur 3) ∧ cur[0]? = some (.int .i64 (v1 : Int)) ∧ cur[1]? = some (.int .i64 (v2 : Int)) ∧ cur[2]? = some (.int .i64 (v3 : Int))
theorem Nm3.cells {w : World} {g v1 v2 v3 : Nat} (h : Nm3 w g v1 v2 v3) : w.cell? ⟨g, 0, none⟩ = some (.int .i64 (v1 : Int)) ∧ w.cell? ⟨g, 1, none⟩ = some (.int .i64 (v2 : Int)) ∧ w.cell? ⟨g, 2, none⟩ = some (.int .i64 (v3 : Int)) := by
  obtain ⟨cur, h1, h2, h3, h4⟩ := h
  exact ⟨by simp [World.cell?, h1, h2], by simp [World.cell?, h1, h3], by simp [World.cell?, h1, h4]⟩
theorem Nm3.far {w w' : World} {g v1 v2 v3 : Nat} (h : Nm3 w g v1 v2 v3) (hk : ∀ {c : Array Value}, w.heap[g]? = some (.cells c 3) → w'.heap[g]? = some (.cells c 3)) : Nm3 w' g v1 v2 v3 := by
  obtain ⟨cur, h1, h2⟩ := h
  exact ⟨cur, hk h1, h2⟩
theorem int_ne : 3 ≠ 50 ∧ 3 ≠ 74 ∧ 3 ≠ 24 := by decide
end Go.Proofs.YthgmhhlgjooeaaaGreatDoor.Gt
