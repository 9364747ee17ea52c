/-
  DERIVED. GIVEN WITH THE SEED: THE CARDS: each row of YtcfpkbmeblfhoaaGreatDoorRows.lean that lists a variable, with what it lists TIED to the program's text (the seventh form; the later family's looks); each row that meets fmt, with fmt's text TOLD by the authors' own Lean function (tested against real Go, not proved from fmt's source: count such statements apart). THE CARD IS WHAT COUNTS. Prove the row's statement (the work); the ties are given (YtcfpkbmeblfhoaaGreatDoorTie.lean); close each card by the builder's one call (the guide's Derived/Test/ToyasCard.lean, 'card_holds'). Laid BY PROGRAM, IN A SANDBOX (cutbox-door.mjs). By AI agents, Wed Nov 11 2026. No macro, syntax, notation, axiom, sorry.
-/
import Derived.Test.YtcfpkbmeblfhoaaGreatDoorRows
import GoSem.ClaimSeven
namespace Go.Proofs.YtcfpkbmeblfhoaaGreatDoor
namespace Rows

/-- THE TIED CARD OF 'viaductlaw12.WitnessFinds'. -/
def witnessFindsCard : Claim7 := { stood := { row := witnessFindsRow, standIns := [], harness := (true, "d7eb8b316fcad3a35a774bf5cf891d978ce50d60572fbb5a10fd068c720acb3c"), looks := true }, kinds := [], alts := [], laidByText := true, laidKinds := [.handle], laidTests := true, laidLooks := .later }
def WitnessFindsCardSaid : Prop := Claim7.holds Tryz.pinned (.plain (OpenSpec.ofChange witnessFindsSpec)) witnessFindsCard

/-- THE TIED CARD OF 'viaductlaw12.WitnessFixed'. -/
def witnessFixedCard : Claim7 := { stood := { row := witnessFixedRow, standIns := [], harness := (true, "d7eb8b316fcad3a35a774bf5cf891d978ce50d60572fbb5a10fd068c720acb3c"), looks := true }, kinds := [], alts := [], laidByText := true, laidKinds := [.handle], laidTests := true, laidLooks := .later }
def WitnessFixedCardSaid : Prop := Claim7.holds Tryz.pinned (.plain (OpenSpec.ofChange witnessFixedSpec)) witnessFixedCard

/-- THE SECOND FORM's CARD OF 'viaductlaw12.WitnessFinds'. -/
def witnessFindsUptoCard : Claim7 := { stood := { row := witnessFindsUptoRow, standIns := [], harness := (true, "d7eb8b316fcad3a35a774bf5cf891d978ce50d60572fbb5a10fd068c720acb3c"), looks := true }, kinds := [], alts := [], laidByText := true, laidKinds := [.handle], laidTests := true, laidLooks := .later }
def WitnessFindsUptoCardSaid : Prop := Claim7.holds Tryz.pinned (.plain (OpenSpec.upto witnessFindsSpec)) witnessFindsUptoCard

/-- THE SECOND FORM's CARD OF 'viaductlaw12.WitnessFixed'. -/
def witnessFixedUptoCard : Claim7 := { stood := { row := witnessFixedUptoRow, standIns := [], harness := (true, "d7eb8b316fcad3a35a774bf5cf891d978ce50d60572fbb5a10fd068c720acb3c"), looks := true }, kinds := [], alts := [], laidByText := true, laidKinds := [.handle], laidTests := true, laidLooks := .later }
def WitnessFixedUptoCardSaid : Prop := Claim7.holds Tryz.pinned (.plain (OpenSpec.upto witnessFixedSpec)) witnessFixedUptoCard
end Rows
end Go.Proofs.YtcfpkbmeblfhoaaGreatDoor
