/-
  DERIVED. GIVEN WITH THE SEED: THE CARDS: each row of YtemdocnhdnhliabDoorRows.lean that lists a variable, with what it lists TIED to the program's text (the seventh form; the later family's looks); each row that meets fmt, with fmt's text TOLD by the authors' own Lean function (tested against real Go, not proved from fmt's source: count such statements apart). THE CARD IS WHAT COUNTS. Prove the row's statement (the work); the ties are given (YtemdocnhdnhliabDoorTie.lean); close each card by the builder's one call (the guide's Derived/Test/ToyasCard.lean, 'card_holds'). Laid BY PROGRAM, IN A SANDBOX (cutbox-door.mjs). By AI agents, Wed Nov 11 2026. No macro, syntax, notation, axiom, sorry.
-/
import Derived.Test.YtemdocnhdnhliabDoorRows
import GoSem.ClaimSeven
namespace Go.Proofs.YtemdocnhdnhliabDoor
namespace Rows

/-- THE TIED CARD OF 'viaductlaw17.CrcMemory'. -/
def crcMemoryCard : Claim7 := { stood := { row := crcMemoryRow, standIns := [], harness := (true, "2841b253e66f32534f5f3b0171a18049b031b02dcaffee31e3ffe0005c7aaaea"), looks := true }, kinds := [], alts := [], laidByText := true, laidKinds := [.data], laidTests := true, laidLooks := .later }
def CrcMemoryCardSaid : Prop := Claim7.holds Tryd.pinned (.plain (OpenSpec.ofChange crcMemorySpec)) crcMemoryCard

/-- THE TIED CARD OF 'viaductlaw18.WirePuts'. -/
def wirePutsCard : Claim7 := { stood := { row := wirePutsRow, standIns := [], harness := (true, "2841b253e66f32534f5f3b0171a18049b031b02dcaffee31e3ffe0005c7aaaea"), looks := true }, kinds := [], alts := [], laidByText := true, laidKinds := [.handle], laidTests := true, laidLooks := .later }
def WirePutsCardSaid : Prop := Claim7.holds Tryd.pinned (.plain (OpenSpec.ofChange wirePutsSpec)) wirePutsCard

/-- THE SECOND FORM's CARD OF 'viaductlaw17.CrcMemory'. -/
def crcMemoryUptoCard : Claim7 := { stood := { row := crcMemoryUptoRow, standIns := [], harness := (true, "2841b253e66f32534f5f3b0171a18049b031b02dcaffee31e3ffe0005c7aaaea"), looks := true }, kinds := [], alts := [], laidByText := true, laidKinds := [.data], laidTests := true, laidLooks := .later }
def CrcMemoryUptoCardSaid : Prop := Claim7.holds Tryd.pinned (.plain (OpenSpec.upto crcMemorySpec)) crcMemoryUptoCard

/-- THE SECOND FORM's CARD OF 'viaductlaw18.WirePuts'. -/
def wirePutsUptoCard : Claim7 := { stood := { row := wirePutsUptoRow, standIns := [], harness := (true, "2841b253e66f32534f5f3b0171a18049b031b02dcaffee31e3ffe0005c7aaaea"), looks := true }, kinds := [], alts := [], laidByText := true, laidKinds := [.handle], laidTests := true, laidLooks := .later }
def WirePutsUptoCardSaid : Prop := Claim7.holds Tryd.pinned (.plain (OpenSpec.upto wirePutsSpec)) wirePutsUptoCard
end Rows
end Go.Proofs.YtemdocnhdnhliabDoor
