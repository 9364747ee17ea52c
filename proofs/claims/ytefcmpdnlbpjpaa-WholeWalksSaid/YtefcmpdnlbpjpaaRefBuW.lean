/- viaductref05.Build of a normal graph: its arrays. -/
import Derived.Test.YtefcmpdnlbpjpaaRefBu
import Derived.Test.YtefcmpdnlbpjpaaCsrM
import Derived.Deep.DeepCutAuto
namespace Go.Proofs.Ytefcmpdnlbpjpaa
open Go.RowKit Go.Extern

attribute [local go_sem] Oper.semAt_some

theorem take_more {l : List Int} {i : Nat} {x : Int} (h : l[i]? = some x) : l.take (i + 1) = l.take i ++ [x] := by
  rw [List.take_add_one, h]; rfl

theorem iown_base {w : World} {B B' n : Nat} {v : Value} {xs : List Value} (h : w.ownsRow B' 3 1 v n xs) (hb : B ≤ B') : w.ownsRow B 3 1 v n xs := by
  obtain ⟨h1, h2⟩ := h
  refine ⟨h1, ?_⟩
  rcases h2 with h2 | ⟨g, cap, cur, e, hg, r⟩
  · exact Or.inl h2
  · exact Or.inr ⟨g, cap, cur, e, by omega, r⟩
theorem cell_int1 (w : World) (v : Value) : ∀ j u, [v][j]? = some u → (w.alloc (.cells #[v] 3)).cell? ((⟨w.heap.size, 0, none⟩ : Addr).add j) = some u := by
  intro j u hj
  have h := heap_new w (.cells #[v] 3)
  generalize w.alloc (.cells #[v] 3) = W at h
  rcases j with _ | j
  · cases hj
    simp [Addr.add, World.cell?, h]
  · simp at hj

end Go.Proofs.Ytefcmpdnlbpjpaa
