/-
  DERIVED. GIVEN WITH THE SEED: THE CARDS: each row of YthcdkokgfnidiaaGreatDoorRows.lean that lists a variable, with what it lists TIED to the program's text (the seventh form; the later family's looks); each row that meets fmt, with fmt's text TOLD by the authors' own Lean function (tested against real Go, not proved from fmt's source: count such statements apart). THE CARD IS WHAT COUNTS. Prove the row's statement (the work); the ties are given (YthcdkokgfnidiaaGreatDoorTie.lean); close each card by the builder's one call (the guide's Derived/Test/ToyasCard.lean, 'card_holds'). Laid BY PROGRAM, IN A SANDBOX (cutbox-door.mjs). By AI agents, Wed Nov 11 2026. No macro, syntax, notation, axiom, sorry.
-/
import Derived.Test.YthcdkokgfnidiaaGreatDoorRows
import GoSem.ClaimSeven
namespace Go.Proofs.YthcdkokgfnidiaaGreatDoor
namespace Rows

/-- THE TIED CARD OF 'viaductlaw21.QueryAsks'. -/
def queryAsksCard : Claim7 := { stood := { row := queryAsksRow, standIns := [], harness := (true, "0223fa169941839ebff903d25dcb564f34c6042b8662d3c7e880a5191379d4dd"), looks := true }, kinds := [], alts := [], laidByText := true, laidKinds := [.handle], laidTests := true, laidLooks := .later }
def QueryAsksCardSaid : Prop := Claim7.holds Tryz.pinned (.plain (OpenSpec.ofChange queryAsksSpec)) queryAsksCard

/-- THE TIED CARD OF 'viaductlaw21.QueryMemory'. -/
def queryMemoryCard : Claim7 := { stood := { row := queryMemoryRow, standIns := [], harness := (true, "0223fa169941839ebff903d25dcb564f34c6042b8662d3c7e880a5191379d4dd"), looks := true }, kinds := [], alts := [], laidByText := true, laidKinds := [.handle], laidTests := true, laidLooks := .later }
def QueryMemoryCardSaid : Prop := Claim7.holds Tryz.pinned (.plain (OpenSpec.ofChange queryMemorySpec)) queryMemoryCard

/-- THE SECOND FORM's CARD OF 'viaductlaw21.QueryAsks'. -/
def queryAsksUptoCard : Claim7 := { stood := { row := queryAsksUptoRow, standIns := [], harness := (true, "0223fa169941839ebff903d25dcb564f34c6042b8662d3c7e880a5191379d4dd"), looks := true }, kinds := [], alts := [], laidByText := true, laidKinds := [.handle], laidTests := true, laidLooks := .later }
def QueryAsksUptoCardSaid : Prop := Claim7.holds Tryz.pinned (.plain (OpenSpec.upto queryAsksSpec)) queryAsksUptoCard

/-- THE SECOND FORM's CARD OF 'viaductlaw21.QueryMemory'. -/
def queryMemoryUptoCard : Claim7 := { stood := { row := queryMemoryUptoRow, standIns := [], harness := (true, "0223fa169941839ebff903d25dcb564f34c6042b8662d3c7e880a5191379d4dd"), looks := true }, kinds := [], alts := [], laidByText := true, laidKinds := [.handle], laidTests := true, laidLooks := .later }
def QueryMemoryUptoCardSaid : Prop := Claim7.holds Tryz.pinned (.plain (OpenSpec.upto queryMemorySpec)) queryMemoryUptoCard
end Rows
end Go.Proofs.YthcdkokgfnidiaaGreatDoor
