/- gtext.Check and its checkArc: the error of a graph: its number and its place. -/
import Derived.Test.YthgmhhlgjooeaaaDoorErrD
import Derived.Test.YthgmhhlgjooeaaaDoorCmp
namespace Go.Proofs.YthgmhhlgjooeaaaDoor
open Go.RowKit Go.Extern

attribute [local go_sem] Oper.semAt_some

/-- a slice whose arcs lie in memory. -/
def HasArcs (w : World) (lv : Value) (xs : List (Int × Int × Int)) : Prop :=
  ∃ ao cap, lv = .slice ao xs.length cap ∧ ∀ j a, xs[j]? = some a → ∃ b off, ao = some ⟨b, off, none⟩ ∧ b < w.heap.size ∧
    w.cell? ⟨b, off + j * 3, none⟩ = some (.int .i64 a.1) ∧ w.cell? ⟨b, off + j * 3 + 1, none⟩ = some (.int .i64 a.2.1) ∧ w.cell? ⟨b, off + j * 3 + 2, none⟩ = some (.int .i64 a.2.2)
theorem HasArcs.keep {w w' : World} {lv : Value} {xs : List (Int × Int × Int)} (h : HasArcs w lv xs) (hb : Below w.heap.size w w') : HasArcs w' lv xs := by
  obtain ⟨ao, cap, e, hc⟩ := h
  refine ⟨ao, cap, e, fun j a hj => ?_⟩
  obtain ⟨b, off, ea, hl, h0, h1, h2⟩ := hc j a hj
  exact ⟨b, off, ea, Nat.lt_of_lt_of_le hl hb.size, (hb.cell (p := ⟨b, _, none⟩) hl).trans h0, (hb.cell (p := ⟨b, _, none⟩) hl).trans h1, (hb.cell (p := ⟨b, _, none⟩) hl).trans h2⟩
theorem HasArcs.at {w : World} {ao : Option Addr} {n cap : Nat} {xs : List (Int × Int × Int)} (h : HasArcs w (.slice ao n cap) xs) {k : Nat} {a : Int × Int × Int} (hp : xs[k]? = some a) :
    ∃ b off, ao = some ⟨b, off, none⟩ ∧ b < w.heap.size ∧ w.cell? ⟨b, off + k * 3, none⟩ = some (.int .i64 a.1) ∧ w.cell? ⟨b, off + k * 3 + 1, none⟩ = some (.int .i64 a.2.1) ∧ w.cell? ⟨b, off + k * 3 + 2, none⟩ = some (.int .i64 a.2.2) := by
  obtain ⟨ao', cap', e, hc⟩ := h
  injection e with e1 e2 e3
  subst e1
  exact hc k a hp

/-- the number of an arc's error. -/
def arcBad (N : Int) (a : Int × Int × Int) : Int := if a.1 < 0 ∨ N ≤ a.1 ∨ a.2.1 < 0 ∨ N ≤ a.2.1 then 7 else if a.2.2 < 0 ∨ 2147483647 < a.2.2 then 8 else 0
/-- the value that a number is xs an error. -/
def numV (c : Int) : Value := if c = 0 then .nilIface else .iface 27 (.int .i64 c)

theorem isErr_new {wm : World} {tv : Value} {p : Int × Int} {ps : List (Int × Int)} {u : Value} (h : IsErr wm tv ps u) :
    IsErr (wm.alloc (.cells #[.int .i64 p.1, .int .i64 p.2, u] 49)) tv (p :: ps) (.iface 47 (.pointer (some ⟨wm.heap.size, 0, none⟩))) :=
  ⟨_, _, rfl, heap_new _ _, h.keep (Below.keeps ((Below.refl _ _).alloc (Nat.le_refl _) _))⟩

/-- the first arc that has an error, from place i on. -/
def firstBad (N : Int) : List (Int × Int × Int) → Nat → Option (Nat × Int)
  | [], _ => none
  | a :: r, i => if arcBad N a = 0 then firstBad N r (i + 1) else some (i, arcBad N a)
theorem firstBad_skip (N : Int) : ∀ (k : Nat) (xs : List (Int × Int × Int)) (i : Nat), k ≤ xs.length → (∀ j a, j < k → xs[j]? = some a → arcBad N a = 0) → firstBad N xs i = firstBad N (xs.drop k) (i + k)
  | 0, xs, i, _, _ => by simp
  | k + 1, [], i, h, _ => by simp at h
  | k + 1, a :: r, i, h, hk => by
    have h0 := hk 0 a (by omega) rfl
    rw [firstBad, if_pos h0, firstBad_skip N k r (i + 1) (by simpa using h) (fun j b hj hb => hk (j + 1) b (by omega) (by simpa using hb)), List.drop_succ_cons]
    congr 1
    omega
/-- the error of a graph: its number and its places. -/
def graphErr (N : Int) (xs : List (Int × Int × Int)) : Int × List (Int × Int) :=
  if N < 0 ∨ 65536 < N ∨ 262144 < xs.length then (9, []) else match firstBad N xs 0 with
    | none => (0, [])
    | some (i, c) => (c, [(4, (i : Int))])
/-- an error as it is told: nothing, or a chain. -/
def IsTold (w : World) (e : Int × List (Int × Int)) (v : Value) : Prop := (e = (0, []) ∧ v = .nilIface) ∨ (e.1 ≠ 0 ∧ IsErr w (.iface 27 (.int .i64 e.1)) e.2 v)
theorem IsTold.keep {w w' : World} {e : Int × List (Int × Int)} {v : Value} (h : IsTold w e v) (hk : Keeps w w') : IsTold w' e v := by
  rcases h with h | ⟨h1, h2⟩
  · exact Or.inl h
  · exact Or.inr ⟨h1, h2.keep hk⟩
theorem arcBad_or (N : Int) (a : Int × Int × Int) : arcBad N a = 0 ∨ arcBad N a = 7 ∨ arcBad N a = 8 := by
  unfold arcBad
  split
  · exact Or.inr (Or.inl rfl)
  · split
    · exact Or.inr (Or.inr rfl)
    · exact Or.inl rfl

end Go.Proofs.YthgmhhlgjooeaaaDoor
