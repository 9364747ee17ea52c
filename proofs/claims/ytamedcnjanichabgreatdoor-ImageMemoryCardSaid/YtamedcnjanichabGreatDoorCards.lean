/-
  DERIVED. GIVEN WITH THE SEED: THE CARDS: each row of YtamedcnjanichabGreatDoorRows.lean that lists a variable, with what it lists TIED to the program's text (the seventh form; the later family's looks); each row that meets fmt, with fmt's text TOLD by the authors' own Lean function (tested against real Go, not proved from fmt's source: count such statements apart). THE CARD IS WHAT COUNTS. Prove the row's statement (the work); the ties are given (YtamedcnjanichabGreatDoorTie.lean); close each card by the builder's one call (the guide's Derived/Test/ToyasCard.lean, 'card_holds'). Laid BY PROGRAM, IN A SANDBOX (cutbox-door.mjs). By AI agents, Wed Nov 11 2026. No macro, syntax, notation, axiom, sorry.
-/
import Derived.Test.YtamedcnjanichabGreatDoorRows
import GoSem.ClaimSeven
namespace Go.Proofs.YtamedcnjanichabGreatDoor
namespace Rows

/-- THE TIED CARD OF 'viaductlaw19.ImageMemory'. -/
def imageMemoryCard : Claim7 := { stood := { row := imageMemoryRow, standIns := [], harness := (true, "bb6ffe863c79527a8bc50628cc887cb9a75cf333d68fad7d3ed73d36ca8d96c2"), looks := true }, kinds := [], alts := [], laidByText := true, laidKinds := [.data, .handle], laidTests := true, laidLooks := .later }
def ImageMemoryCardSaid : Prop := Claim7.holds Tryz.pinned (.plain (OpenSpec.ofChange imageMemorySpec)) imageMemoryCard

/-- THE SECOND FORM's CARD OF 'viaductlaw19.ImageMemory'. -/
def imageMemoryUptoCard : Claim7 := { stood := { row := imageMemoryUptoRow, standIns := [], harness := (true, "bb6ffe863c79527a8bc50628cc887cb9a75cf333d68fad7d3ed73d36ca8d96c2"), looks := true }, kinds := [], alts := [], laidByText := true, laidKinds := [.data, .handle], laidTests := true, laidLooks := .later }
def ImageMemoryUptoCardSaid : Prop := Claim7.holds Tryz.pinned (.plain (OpenSpec.upto imageMemorySpec)) imageMemoryUptoCard
end Rows
end Go.Proofs.YtamedcnjanichabGreatDoor
