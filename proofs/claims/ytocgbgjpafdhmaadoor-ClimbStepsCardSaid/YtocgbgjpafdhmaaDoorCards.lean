/-
  DERIVED. GIVEN WITH THE SEED: THE CARDS: each row of YtocgbgjpafdhmaaDoorRows.lean that lists a variable, with what it lists TIED to the program's text (the seventh form; the later family's looks); each row that meets fmt, with fmt's text TOLD by the authors' own Lean function (tested against real Go, not proved from fmt's source: count such statements apart). THE CARD IS WHAT COUNTS. Prove the row's statement (the work); the ties are given (YtocgbgjpafdhmaaDoorTie.lean); close each card by the builder's one call (the guide's Derived/Test/ToyasCard.lean, 'card_holds'). Laid BY PROGRAM, IN A SANDBOX (cutbox-door.mjs). By AI agents, Wed Nov 11 2026. No macro, syntax, notation, axiom, sorry.
-/
import Derived.Test.YtocgbgjpafdhmaaDoorRows
import GoSem.ClaimSeven
namespace Go.Proofs.YtocgbgjpafdhmaaDoor
namespace Rows

/-- THE TIED CARD OF 'viaductlaw20.ClimbSteps'. -/
def climbStepsCard : Claim7 := { stood := { row := climbStepsRow, standIns := [], harness := (true, "f4267959266bef37d54ec5f9fedf4be56376923b5ddbdc8efc289892813245cf"), looks := true }, kinds := [], alts := [], laidByText := true, laidKinds := [.handle], laidTests := true, laidLooks := .later }
def ClimbStepsCardSaid : Prop := Claim7.holds Tryd.pinned (.plain (OpenSpec.ofChange climbStepsSpec)) climbStepsCard

/-- THE TIED CARD OF 'viaductlaw20.ClimbFixed'. -/
def climbFixedCard : Claim7 := { stood := { row := climbFixedRow, standIns := [], harness := (true, "f4267959266bef37d54ec5f9fedf4be56376923b5ddbdc8efc289892813245cf"), looks := true }, kinds := [], alts := [], laidByText := true, laidKinds := [.handle], laidTests := true, laidLooks := .later }
def ClimbFixedCardSaid : Prop := Claim7.holds Tryd.pinned (.plain (OpenSpec.ofChange climbFixedSpec)) climbFixedCard

/-- THE SECOND FORM's CARD OF 'viaductlaw20.ClimbSteps'. -/
def climbStepsUptoCard : Claim7 := { stood := { row := climbStepsUptoRow, standIns := [], harness := (true, "f4267959266bef37d54ec5f9fedf4be56376923b5ddbdc8efc289892813245cf"), looks := true }, kinds := [], alts := [], laidByText := true, laidKinds := [.handle], laidTests := true, laidLooks := .later }
def ClimbStepsUptoCardSaid : Prop := Claim7.holds Tryd.pinned (.plain (OpenSpec.upto climbStepsSpec)) climbStepsUptoCard

/-- THE SECOND FORM's CARD OF 'viaductlaw20.ClimbFixed'. -/
def climbFixedUptoCard : Claim7 := { stood := { row := climbFixedUptoRow, standIns := [], harness := (true, "f4267959266bef37d54ec5f9fedf4be56376923b5ddbdc8efc289892813245cf"), looks := true }, kinds := [], alts := [], laidByText := true, laidKinds := [.handle], laidTests := true, laidLooks := .later }
def ClimbFixedUptoCardSaid : Prop := Claim7.holds Tryd.pinned (.plain (OpenSpec.upto climbFixedSpec)) climbFixedUptoCard
end Rows
end Go.Proofs.YtocgbgjpafdhmaaDoor
