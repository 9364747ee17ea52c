/-
  DERIVED. GIVEN WITH THE SEED: THE CARDS: each row of YtghbekpilhnkfabDoorRows.lean that lists a variable, with what it lists TIED to the program's text (the seventh form; the later family's looks); each row that meets fmt, with fmt's text TOLD by the authors' own Lean function (tested against real Go, not proved from fmt's source: count such statements apart). THE CARD IS WHAT COUNTS. Prove the row's statement (the work); the ties are given (YtghbekpilhnkfabDoorTie.lean); close each card by the builder's one call (the guide's Derived/Test/ToyasCard.lean, 'card_holds'). Laid BY PROGRAM, IN A SANDBOX (cutbox-door.mjs). By AI agents, Wed Nov 11 2026. No macro, syntax, notation, axiom, sorry.
-/
import Derived.Test.YtghbekpilhnkfabDoorRows
import GoSem.ClaimSeven
namespace Go.Proofs.YtghbekpilhnkfabDoor
namespace Rows

/-- THE TIED CARD OF 'viaductlaw03.GtextMemory'. -/
def gtextMemoryCard : Claim7 := { stood := { row := gtextMemoryRow, standIns := [], harness := (true, "a9e6da601a641288b4b1e403eb7fb8708aee39ce6e05e8581a822c004b0454a9"), looks := true }, kinds := [], alts := [], laidByText := true, laidKinds := [.data, .data, .data, .handle], laidTests := true, laidLooks := .later }
def GtextMemoryCardSaid : Prop := Claim7.holds Tryd.pinned (.plain (OpenSpec.ofChange gtextMemorySpec)) gtextMemoryCard

/-- THE SECOND FORM's CARD OF 'viaductlaw03.GtextMemory'. -/
def gtextMemoryUptoCard : Claim7 := { stood := { row := gtextMemoryUptoRow, standIns := [], harness := (true, "a9e6da601a641288b4b1e403eb7fb8708aee39ce6e05e8581a822c004b0454a9"), looks := true }, kinds := [], alts := [], laidByText := true, laidKinds := [.data, .data, .data, .handle], laidTests := true, laidLooks := .later }
def GtextMemoryUptoCardSaid : Prop := Claim7.holds Tryd.pinned (.plain (OpenSpec.upto gtextMemorySpec)) gtextMemoryUptoCard
end Rows
end Go.Proofs.YtghbekpilhnkfabDoor
