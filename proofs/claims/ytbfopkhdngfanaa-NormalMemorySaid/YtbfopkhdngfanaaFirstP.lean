/- fault.First and viaductref01.First over two: the first that is something. -/
import Derived.Test.YtbfopkhdngfanaaDocCheck
namespace Go.Proofs.Ytbfopkhdngfanaa
open Go.RowKit Go.Extern

attribute [local go_sem] Oper.semAt_some

/-- the first value of two that is something. -/
def firstOf (a b : Value) : Value := match a with
  | .nilIface => b
  | v => v
/-- nothing, or something. -/
def IsFace (v : Value) : Prop := v = .nilIface ∨ ∃ T x, v = .iface T x

set_option maxHeartbeats 1000000 in
theorem first2_calls (b : Nat) (v0 v1 : Value) (w : World) (h0 : w.cell? ⟨b, 0, none⟩ = some v0) (h1 : w.cell? ⟨b, 1, none⟩ = some v1) (f0 : IsFace v0) (f1 : IsFace v1) :
    Calls Try.prog 41 #[.slice (some ⟨b, 0, none⟩) 2 2] w fun e w' => e = .returned (firstOf v0 v1) ∧ w' = w := by
  go_enter Try.func41, Try.ntmps41
  go_wp2
  go_loop [7] (fun i => i = .int .i64 0 ∨ (i = .int .i64 1 ∧ v0 = .nilIface) ∨ (i = .int .i64 2 ∧ v0 = .nilIface ∧ v1 = .nilIface)) (fun i => 2 - (intOf i).toNat)
  case atStart => exact Or.inl rfl
  case round =>
    rcases hrel with rfl | ⟨rfl, rfl⟩ | ⟨rfl, rfl, rfl⟩
    · rcases f0 with rfl | ⟨T, x, rfl⟩
      · go_wp2
        go_round
        case rel => simp
        case measure => simp [intOf]
      · go_wp2
        go_ret
        exact ⟨rfl, rfl⟩
    · rcases f1 with rfl | ⟨T, x, rfl⟩
      · go_wp2
        go_round
        case rel => simp
        case measure => simp [intOf]
      · go_wp2
        go_ret
        exact ⟨rfl, rfl⟩
    · go_wp2
      go_ret
      exact ⟨rfl, rfl⟩

/-- the first of two told errors. -/
def firstE (a b : Int × List (Int × Int)) : Int × List (Int × Int) := if a.1 = 0 ∧ a.2 = [] then b else a
end Go.Proofs.Ytbfopkhdngfanaa
