/- viaductref04.SameRow at rows that are one: it says so. -/
import Derived.Test.YtefcmpdnlbpjpaaSeY
import Derived.BigQuiet
namespace Go.Proofs.Ytefcmpdnlbpjpaa
open Go.RowKit Go.Extern

attribute [local go_sem] Oper.semAt_some

/-- a row of numbers, or none at all. -/
def URow (w : World) (ao : Option Addr) (D : List Int) : Prop := (ao = none ∧ D = []) ∨ ∃ b, ao = some ⟨b, 0, none⟩ ∧ U64s w b D
theorem URow.at {w : World} {ao : Option Addr} {D : List Int} (h : URow w ao D) {k : Nat} {x : Int} (hk : D[k]? = some x) : ∃ b, ao = some ⟨b, 0, none⟩ ∧ b < w.heap.size ∧ w.cell? ⟨b, k, none⟩ = some (.int .u64 x) := by
  rcases h with ⟨_, rfl⟩ | ⟨b, h1, h2⟩
  · simp at hk
  · exact ⟨b, h1, (h2.at hk).2.1, (h2.at hk).1⟩
theorem URow.keep {w w' : World} {ao : Option Addr} {D : List Int} (h : URow w ao D) (hb : Below w.heap.size w w') : URow w' ao D := by
  rcases h with h | ⟨b, h1, h2⟩
  · exact Or.inl h
  · exact Or.inr ⟨b, h1, (hb.block _ (lt_of_get h2)).trans h2⟩

set_option maxRecDepth 100000 in
set_option maxHeartbeats 1000000 in
theorem sameRow_yes (ao bo : Option Addr) (ac bc : Nat) (D : List Int) (w : World) (ha : URow w ao D) (hb : URow w bo D) (hm : D.length ≤ maxLen) :
    Calls Try.prog 24 #[.slice ao D.length ac, .slice bo D.length bc] w fun e w' => e = .returned (.bool true) ∧ Below w.heap.size w w' := by
  unfold maxLen at hm
  have HA : Hid (URow w ao D) := ha
  have HB : Hid (URow w bo D) := hb
  clear ha hb
  go_enter Try.func24, Try.ntmps24
  go_wp2_with fail
  go_loopw [13] (fun iv wr => ∃ k : Nat, k ≤ D.length ∧ iv = .int .i64 k ∧ Below w.heap.size w wr) (fun iv _ => D.length - (intOf iv).toNat)
  case atStart => exact ⟨0, Nat.zero_le _, rfl, Below.refl _ _⟩
  case round =>
    obtain ⟨k, hk, rfl, hbw⟩ := hrel
    by_cases hlt : k < D.length
    · obtain ⟨p, hp⟩ : ∃ p, D[k]? = some p := ⟨D[k], List.getElem?_eq_getElem hlt⟩
      obtain ⟨b, hao, hl1, q0⟩ := HA.out.at hp
      obtain ⟨b', hbo, hl2, r0⟩ := HB.out.at hp
      subst hao
      subst hbo
      have a0 := (hbw.cell (p := ⟨b, k, none⟩) hl1).trans q0
      have b0 := (hbw.cell (p := ⟨b', k, none⟩) hl2).trans r0
      have i1 : (k : Int) < (D.length : Int) := by omega
      have i2 : (0 : Int) ≤ (k : Int) := by omega
      have HBW : Hid (Below w.heap.size w wr) := hbw
      clear q0 r0 hp hbw
      go_wp2_with fail
      go_quiet (fail)
      have HB4 : Hid (Below w.heap.size w (wr.drewN nq)) := below_drewN HBW.out nq
      go_wp2
      go_roundw
      case rel => exact ⟨k + 1, by omega, by go_num, HB4.out⟩
      case measure => simp [intOf]; omega
    · go_wp2
      go_ret
      exact ⟨rfl, hbw⟩
end Go.Proofs.Ytefcmpdnlbpjpaa
