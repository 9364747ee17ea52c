/- slices.Equal at words and links, and the reference's SameWords and SameLinks: whatever the two lists. (geneq.py) -/
import Derived.Test.YtlehlghagddogaaGreatDoorHrG
import Derived.Deep.QuietTactic
import Derived.BigQuiet
namespace Go.Proofs.YtlehlghagddogaaGreatDoor.Hi
open Go.RowKit Go.Extern

attribute [local go_sem] Oper.semAt_some

/-- the first place where two lists differ. -/
theorem differ_at {α : Type} [DecidableEq α] : ∀ {xs ys : List α}, xs.length = ys.length → xs ≠ ys → ∃ (m : Nat) (x y : α), (∀ j : Nat, j < m → xs[j]? = ys[j]?) ∧ xs[m]? = some x ∧ ys[m]? = some y ∧ x ≠ y
  | [], [], _, h => absurd rfl h
  | [], _ :: _, h, _ => by simp at h
  | _ :: _, [], h, _ => by simp at h
  | x :: xs, y :: ys, hl, h => by
    by_cases e : x = y
    · subst e
      obtain ⟨m, u, v, h1, h2, h3, h4⟩ := differ_at (xs := xs) (ys := ys) (by simpa using hl) (fun e => h (by rw [e]))
      refine ⟨m + 1, u, v, fun j hj => ?_, by simpa using h2, by simpa using h3, h4⟩
      cases j with
      | zero => rfl
      | succ j => simpa using h1 j (by omega)
    · exact ⟨0, x, y, fun j hj => by omega, rfl, rfl, e⟩
theorem HasWs.at {w : World} {ao : Option Addr} {n cap : Nat} {L : List Nat} (h : HasWs w (.slice ao n cap) L) {j : Nat} {l : Nat} (hj : L[j]? = some l) : l < 4294967296 ∧ ∃ b off, ao = some ⟨b, off, none⟩ ∧ b < w.heap.size ∧ w.cell? ⟨b, off + j, none⟩ = some (.int .u32 (l : Int)) := by
  obtain ⟨ao', cap', e, _, hc⟩ := h
  injection e with e1 e2 e3
  subst e1
  exact hc j l hj

end Go.Proofs.YtlehlghagddogaaGreatDoor.Hi
