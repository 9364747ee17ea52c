/-
  DERIVED. GIVEN WITH THE SEED: THE CARDS: each row of YtejpjbllonnafaaDoorRows.lean that lists a variable, with what it lists TIED to the program's text (the seventh form; the later family's looks); each row that meets fmt, with fmt's text TOLD by the authors' own Lean function (tested against real Go, not proved from fmt's source: count such statements apart). THE CARD IS WHAT COUNTS. Prove the row's statement (the work); the ties are given (YtejpjbllonnafaaDoorTie.lean); close each card by the builder's one call (the guide's Derived/Test/ToyasCard.lean, 'card_holds'). Laid BY PROGRAM, IN A SANDBOX (cutbox-door.mjs). By AI agents, Wed Nov 11 2026. No macro, syntax, notation, axiom, sorry.
-/
import Derived.Test.YtejpjbllonnafaaDoorRows
import GoSem.ClaimSeven
namespace Go.Proofs.YtejpjbllonnafaaDoor
namespace Rows

/-- THE TIED CARD OF 'viaductlaw21.QueryFixed'. -/
def queryFixedCard : Claim7 := { stood := { row := queryFixedRow, standIns := [], harness := (true, "951e2b5d3744eb20783e6938a1f8879759c60c609df90b0716a16b5fea4364c5"), looks := true }, kinds := [], alts := [], laidByText := true, laidKinds := [.handle], laidTests := true, laidLooks := .later }
def QueryFixedCardSaid : Prop := Claim7.holds Tryd.pinned (.plain (OpenSpec.ofChange queryFixedSpec)) queryFixedCard

/-- THE SECOND FORM's CARD OF 'viaductlaw21.QueryFixed'. -/
def queryFixedUptoCard : Claim7 := { stood := { row := queryFixedUptoRow, standIns := [], harness := (true, "951e2b5d3744eb20783e6938a1f8879759c60c609df90b0716a16b5fea4364c5"), looks := true }, kinds := [], alts := [], laidByText := true, laidKinds := [.handle], laidTests := true, laidLooks := .later }
def QueryFixedUptoCardSaid : Prop := Claim7.holds Tryd.pinned (.plain (OpenSpec.upto queryFixedSpec)) queryFixedUptoCard
end Rows
end Go.Proofs.YtejpjbllonnafaaDoor
