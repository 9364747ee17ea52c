/- A bounded search ends in one way. -/
import Derived.Test.YtbaahjppofbdlaaGreatDoorSeX
namespace Go.Proofs.YtbaahjppofbdlaaGreatDoor

theorem steps_det {n : Nat} {zs : List (Int × Int × Int)} {hb mo : Int} {S0 : FS} : ∀ (t : Nat) (S S' : FS), Steps n zs hb mo S0 t S → Steps n zs hb mo S0 t S' → S = S'
  | 0, S, S', h, h' => h.trans h'.symm
  | t + 1, S, S', ⟨S1, v, k, h1, h2, _, h4⟩, ⟨S1', v', k', h1', h2', _, h4'⟩ => by
    obtain rfl := steps_det t S1 S1' h1 h1'
    obtain ⟨rfl, rfl⟩ := least_unique h2 h2'
    rw [h4, h4']
theorem steps_prefix {n : Nat} {zs : List (Int × Int × Int)} {hb mo : Int} {S0 : FS} : ∀ (m t : Nat) (S : FS), Steps n zs hb mo S0 (t + m + 1) S → ∃ S1 v k, Steps n zs hb mo S0 t S1 ∧ Hp.Least n S1.f v k ∧ k ≤ mo
  | 0, _, _, ⟨S1, v, k, h1, h2, h3, _⟩ => ⟨S1, v, k, h1, h2, h3⟩
  | m + 1, t, _, ⟨S1, _, _, h1, _, _, _⟩ => steps_prefix m t S1 h1
theorem run_short {n : Nat} {zs : List (Int × Int × Int)} {hb se mo : Int} {S0 : FS} {t t' : Nat} {S S' : FS} (h : Steps n zs hb mo S0 t S) (e : RunEnd n se mo t S) (h' : Steps n zs hb mo S0 t' S') (e' : RunEnd n se mo t' S') (hlt : t < t') : False := by
  obtain ⟨m, rfl⟩ : ∃ m, t' = t + m + 1 := ⟨t' - t - 1, by omega⟩
  obtain ⟨S1, v, k, h1, h2, h3⟩ := steps_prefix m t S' h'
  obtain rfl := steps_det t S S1 h h1
  have hb' : (((t + m + 1 : Nat) : Int) = 0 ∨ ((t + m + 1 : Nat) : Int) ≤ se) := by
    rcases e' with ⟨_, q⟩ | ⟨_, q⟩ | ⟨_, _, _, _, q⟩
    · rcases q with q | q
      · omega
      · exact Or.inr q
    · rcases q with q | q
      · omega
      · exact Or.inr q
    · rcases q with q | q
      · omega
      · exact Or.inr q
  rcases e with ⟨q, _⟩ | ⟨q, _⟩ | ⟨v2, k2, q1, q2, _⟩
  · omega
  · have := q v h2.1
    rw [h2.2.1] at this
    cases this
  · obtain ⟨_, rfl⟩ := least_unique h2 q1
    omega
/-- however it is told, a bounded search from one beginning ends at one state. -/
theorem run_unique {n : Nat} {zs : List (Int × Int × Int)} {hb se mo : Int} {S0 : FS} {t t' : Nat} {S S' : FS} (h : Steps n zs hb mo S0 t S) (e : RunEnd n se mo t S) (h' : Steps n zs hb mo S0 t' S') (e' : RunEnd n se mo t' S') : t = t' ∧ S = S' := by
  rcases Nat.lt_trichotomy t t' with hlt | rfl | hlt
  · exact (run_short h e h' e' hlt).elim
  · exact ⟨rfl, steps_det t S S' h h'⟩
  · exact (run_short h' e' h e hlt).elim
end Go.Proofs.YtbaahjppofbdlaaGreatDoor
