/- gtext.Check and its checkArc: the error of a graph: its number and its place. -/
import Derived.Test.YtodilocmfdeehaaGreatDoorErrD
import Derived.Test.YtodilocmfdeehaaGreatDoorCmp
namespace Go.Proofs.YtodilocmfdeehaaGreatDoor
open Go.RowKit Go.Extern

attribute [local go_sem] Oper.semAt_some

/-- a slice whose arcs lie in memory. -/
def HasArcs (w : World) (lv : Value) (xs : List (Int × Int × Int)) : Prop :=
  ∃ ao cap, lv = .slice ao xs.length cap ∧ ∀ j a, xs[j]? = some a → ∃ b off, ao = some ⟨b, off, none⟩ ∧ b < w.heap.size ∧
    w.cell? ⟨b, off + j * 3, none⟩ = some (.int .i64 a.1) ∧ w.cell? ⟨b, off + j * 3 + 1, none⟩ = some (.int .i64 a.2.1) ∧ w.cell? ⟨b, off + j * 3 + 2, none⟩ = some (.int .i64 a.2.2)
/-- the number of an arc's error. -/
def arcBad (N : Int) (a : Int × Int × Int) : Int := if a.1 < 0 ∨ N ≤ a.1 ∨ a.2.1 < 0 ∨ N ≤ a.2.1 then 7 else if a.2.2 < 0 ∨ 2147483647 < a.2.2 then 8 else 0
/-- the value that a number is xs an error. -/
def numV (c : Int) : Value := if c = 0 then .nilIface else .iface 61 (.int .i64 c)

/-- the first arc that has an error, from place i on. -/
def firstBad (N : Int) : List (Int × Int × Int) → Nat → Option (Nat × Int)
  | [], _ => none
  | a :: r, i => if arcBad N a = 0 then firstBad N r (i + 1) else some (i, arcBad N a)
/-- the error of a graph: its number and its places. -/
def graphErr (N : Int) (xs : List (Int × Int × Int)) : Int × List (Int × Int) :=
  if N < 0 ∨ 65536 < N ∨ 262144 < xs.length then (9, []) else match firstBad N xs 0 with
    | none => (0, [])
    | some (i, c) => (c, [(4, (i : Int))])
/-- an error as it is told: nothing, or a chain. -/
def IsTold (w : World) (e : Int × List (Int × Int)) (v : Value) : Prop := (e = (0, []) ∧ v = .nilIface) ∨ (e.1 ≠ 0 ∧ IsErr w (.iface 61 (.int .i64 e.1)) e.2 v)
theorem IsTold.keep {w w' : World} {e : Int × List (Int × Int)} {v : Value} (h : IsTold w e v) (hk : Keeps w w') : IsTold w' e v := by
  rcases h with h | ⟨h1, h2⟩
  · exact Or.inl h
  · exact Or.inr ⟨h1, h2.keep hk⟩
end Go.Proofs.YtodilocmfdeehaaGreatDoor
