/-
  DERIVED. GIVEN WITH THE SEED: THE CARDS: each row of YtkmbffdjgpjojabDoorRows.lean that lists a variable, with what it lists TIED to the program's text (the seventh form; the later family's looks); each row that meets fmt, with fmt's text TOLD by the authors' own Lean function (tested against real Go, not proved from fmt's source: count such statements apart). THE CARD IS WHAT COUNTS. Prove the row's statement (the work); the ties are given (YtkmbffdjgpjojabDoorTie.lean); close each card by the builder's one call (the guide's Derived/Test/ToyasCard.lean, 'card_holds'). Laid BY PROGRAM, IN A SANDBOX (cutbox-door.mjs). By AI agents, Wed Nov 11 2026. No macro, syntax, notation, axiom, sorry.
-/
import Derived.Test.YtkmbffdjgpjojabDoorRows
import GoSem.ClaimSeven
namespace Go.Proofs.YtkmbffdjgpjojabDoor
namespace Rows

/-- THE TIED CARD OF 'viaductlaw01.FaultFixed'. -/
def faultFixedCard : Claim7 := { stood := { row := faultFixedRow, standIns := [], harness := (true, "7d2c5177deaff29ac18780b6ad051e0cedeb881bdb9ee45d66fa6f263886043e"), looks := true }, kinds := [], alts := [], laidByText := true, laidKinds := [.data, .data, .data, .handle], laidTests := true, laidLooks := .later }
def FaultFixedCardSaid : Prop := Claim7.holds Tryd.pinned (.plain (OpenSpec.ofChange faultFixedSpec)) faultFixedCard

/-- THE TIED CARD OF 'viaductlaw01.FaultMemory'. -/
def faultMemoryCard : Claim7 := { stood := { row := faultMemoryRow, standIns := [], harness := (true, "7d2c5177deaff29ac18780b6ad051e0cedeb881bdb9ee45d66fa6f263886043e"), looks := true }, kinds := [], alts := [], laidByText := true, laidKinds := [.data, .data, .data, .handle], laidTests := true, laidLooks := .later }
def FaultMemoryCardSaid : Prop := Claim7.holds Tryd.pinned (.plain (OpenSpec.ofChange faultMemorySpec)) faultMemoryCard

/-- THE SECOND FORM's CARD OF 'viaductlaw01.FaultFixed'. -/
def faultFixedUptoCard : Claim7 := { stood := { row := faultFixedUptoRow, standIns := [], harness := (true, "7d2c5177deaff29ac18780b6ad051e0cedeb881bdb9ee45d66fa6f263886043e"), looks := true }, kinds := [], alts := [], laidByText := true, laidKinds := [.data, .data, .data, .handle], laidTests := true, laidLooks := .later }
def FaultFixedUptoCardSaid : Prop := Claim7.holds Tryd.pinned (.plain (OpenSpec.upto faultFixedSpec)) faultFixedUptoCard

/-- THE SECOND FORM's CARD OF 'viaductlaw01.FaultMemory'. -/
def faultMemoryUptoCard : Claim7 := { stood := { row := faultMemoryUptoRow, standIns := [], harness := (true, "7d2c5177deaff29ac18780b6ad051e0cedeb881bdb9ee45d66fa6f263886043e"), looks := true }, kinds := [], alts := [], laidByText := true, laidKinds := [.data, .data, .data, .handle], laidTests := true, laidLooks := .later }
def FaultMemoryUptoCardSaid : Prop := Claim7.holds Tryd.pinned (.plain (OpenSpec.upto faultMemorySpec)) faultMemoryUptoCard
end Rows
end Go.Proofs.YtkmbffdjgpjojabDoor
