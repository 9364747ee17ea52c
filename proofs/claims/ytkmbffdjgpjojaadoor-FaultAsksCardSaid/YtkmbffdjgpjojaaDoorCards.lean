/-
  DERIVED. GIVEN WITH THE SEED: THE CARDS: each row of YtkmbffdjgpjojaaDoorRows.lean that lists a variable, with what it lists TIED to the program's text (the seventh form; the later family's looks); each row that meets fmt, with fmt's text TOLD by the authors' own Lean function (tested against real Go, not proved from fmt's source: count such statements apart). THE CARD IS WHAT COUNTS. Prove the row's statement (the work); the ties are given (YtkmbffdjgpjojaaDoorTie.lean); close each card by the builder's one call (the guide's Derived/Test/ToyasCard.lean, 'card_holds'). Laid BY PROGRAM, IN A SANDBOX (cutbox-door.mjs). By AI agents, Wed Nov 11 2026. No macro, syntax, notation, axiom, sorry.
-/
import Derived.Test.YtkmbffdjgpjojaaDoorRows
import GoSem.ClaimSeven
namespace Go.Proofs.YtkmbffdjgpjojaaDoor
namespace Rows

/-- THE TIED CARD OF 'viaductlaw01.FaultAts'. -/
def faultAtsCard : Claim7 := { stood := { row := faultAtsRow, standIns := [], harness := (true, "d641f76bdd01c2b61020df4be5516acfe123b2e96b117e5d0b810d6e78796b52"), looks := true }, kinds := [], alts := [], laidByText := true, laidKinds := [.data, .data, .data, .handle], laidTests := true, laidLooks := .later }
def FaultAtsCardSaid : Prop := Claim7.holds Tryd.pinned (.plain (OpenSpec.ofChange faultAtsSpec)) faultAtsCard

/-- THE TIED CARD OF 'viaductlaw01.FaultAsks'. -/
def faultAsksCard : Claim7 := { stood := { row := faultAsksRow, standIns := [], harness := (true, "d641f76bdd01c2b61020df4be5516acfe123b2e96b117e5d0b810d6e78796b52"), looks := true }, kinds := [], alts := [], laidByText := true, laidKinds := [.data, .data, .data, .handle], laidTests := true, laidLooks := .later }
def FaultAsksCardSaid : Prop := Claim7.holds Tryd.pinned (.plain (OpenSpec.ofChange faultAsksSpec)) faultAsksCard

/-- THE TIED CARD OF 'viaductlaw01.FaultShifts'. -/
def faultShiftsCard : Claim7 := { stood := { row := faultShiftsRow, standIns := [], harness := (true, "d641f76bdd01c2b61020df4be5516acfe123b2e96b117e5d0b810d6e78796b52"), looks := true }, kinds := [], alts := [], laidByText := true, laidKinds := [.data, .data, .data, .handle], laidTests := true, laidLooks := .later }
def FaultShiftsCardSaid : Prop := Claim7.holds Tryd.pinned (.plain (OpenSpec.ofChange faultShiftsSpec)) faultShiftsCard

/-- THE TIED CARD OF 'viaductlaw01.FaultSames'. -/
def faultSamesCard : Claim7 := { stood := { row := faultSamesRow, standIns := [], harness := (true, "d641f76bdd01c2b61020df4be5516acfe123b2e96b117e5d0b810d6e78796b52"), looks := true }, kinds := [], alts := [], laidByText := true, laidKinds := [.data, .data, .data, .handle], laidTests := true, laidLooks := .later }
def FaultSamesCardSaid : Prop := Claim7.holds Tryd.pinned (.plain (OpenSpec.ofChange faultSamesSpec)) faultSamesCard

/-- THE TIED CARD OF 'viaductlaw01.FaultFirsts'. -/
def faultFirstsCard : Claim7 := { stood := { row := faultFirstsRow, standIns := [], harness := (true, "d641f76bdd01c2b61020df4be5516acfe123b2e96b117e5d0b810d6e78796b52"), looks := true }, kinds := [], alts := [], laidByText := true, laidKinds := [.data, .data, .data, .handle], laidTests := true, laidLooks := .later }
def FaultFirstsCardSaid : Prop := Claim7.holds Tryd.pinned (.plain (OpenSpec.ofChange faultFirstsSpec)) faultFirstsCard

/-- THE TIED CARD OF 'viaductlaw01.FaultNests'. -/
def faultNestsCard : Claim7 := { stood := { row := faultNestsRow, standIns := [], harness := (true, "d641f76bdd01c2b61020df4be5516acfe123b2e96b117e5d0b810d6e78796b52"), looks := true }, kinds := [], alts := [], laidByText := true, laidKinds := [.data, .data, .data, .handle], laidTests := true, laidLooks := .later }
def FaultNestsCardSaid : Prop := Claim7.holds Tryd.pinned (.plain (OpenSpec.ofChange faultNestsSpec)) faultNestsCard

/-- THE SECOND FORM's CARD OF 'viaductlaw01.FaultAts'. -/
def faultAtsUptoCard : Claim7 := { stood := { row := faultAtsUptoRow, standIns := [], harness := (true, "d641f76bdd01c2b61020df4be5516acfe123b2e96b117e5d0b810d6e78796b52"), looks := true }, kinds := [], alts := [], laidByText := true, laidKinds := [.data, .data, .data, .handle], laidTests := true, laidLooks := .later }
def FaultAtsUptoCardSaid : Prop := Claim7.holds Tryd.pinned (.plain (OpenSpec.upto faultAtsSpec)) faultAtsUptoCard

/-- THE SECOND FORM's CARD OF 'viaductlaw01.FaultAsks'. -/
def faultAsksUptoCard : Claim7 := { stood := { row := faultAsksUptoRow, standIns := [], harness := (true, "d641f76bdd01c2b61020df4be5516acfe123b2e96b117e5d0b810d6e78796b52"), looks := true }, kinds := [], alts := [], laidByText := true, laidKinds := [.data, .data, .data, .handle], laidTests := true, laidLooks := .later }
def FaultAsksUptoCardSaid : Prop := Claim7.holds Tryd.pinned (.plain (OpenSpec.upto faultAsksSpec)) faultAsksUptoCard

/-- THE SECOND FORM's CARD OF 'viaductlaw01.FaultShifts'. -/
def faultShiftsUptoCard : Claim7 := { stood := { row := faultShiftsUptoRow, standIns := [], harness := (true, "d641f76bdd01c2b61020df4be5516acfe123b2e96b117e5d0b810d6e78796b52"), looks := true }, kinds := [], alts := [], laidByText := true, laidKinds := [.data, .data, .data, .handle], laidTests := true, laidLooks := .later }
def FaultShiftsUptoCardSaid : Prop := Claim7.holds Tryd.pinned (.plain (OpenSpec.upto faultShiftsSpec)) faultShiftsUptoCard

/-- THE SECOND FORM's CARD OF 'viaductlaw01.FaultSames'. -/
def faultSamesUptoCard : Claim7 := { stood := { row := faultSamesUptoRow, standIns := [], harness := (true, "d641f76bdd01c2b61020df4be5516acfe123b2e96b117e5d0b810d6e78796b52"), looks := true }, kinds := [], alts := [], laidByText := true, laidKinds := [.data, .data, .data, .handle], laidTests := true, laidLooks := .later }
def FaultSamesUptoCardSaid : Prop := Claim7.holds Tryd.pinned (.plain (OpenSpec.upto faultSamesSpec)) faultSamesUptoCard

/-- THE SECOND FORM's CARD OF 'viaductlaw01.FaultFirsts'. -/
def faultFirstsUptoCard : Claim7 := { stood := { row := faultFirstsUptoRow, standIns := [], harness := (true, "d641f76bdd01c2b61020df4be5516acfe123b2e96b117e5d0b810d6e78796b52"), looks := true }, kinds := [], alts := [], laidByText := true, laidKinds := [.data, .data, .data, .handle], laidTests := true, laidLooks := .later }
def FaultFirstsUptoCardSaid : Prop := Claim7.holds Tryd.pinned (.plain (OpenSpec.upto faultFirstsSpec)) faultFirstsUptoCard

/-- THE SECOND FORM's CARD OF 'viaductlaw01.FaultNests'. -/
def faultNestsUptoCard : Claim7 := { stood := { row := faultNestsUptoRow, standIns := [], harness := (true, "d641f76bdd01c2b61020df4be5516acfe123b2e96b117e5d0b810d6e78796b52"), looks := true }, kinds := [], alts := [], laidByText := true, laidKinds := [.data, .data, .data, .handle], laidTests := true, laidLooks := .later }
def FaultNestsUptoCardSaid : Prop := Claim7.holds Tryd.pinned (.plain (OpenSpec.upto faultNestsSpec)) faultNestsUptoCard
end Rows
end Go.Proofs.YtkmbffdjgpjojaaDoor
