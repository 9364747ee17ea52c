/-
  DERIVED. GIVEN WITH THE SEED: THE CARDS: each row of YtjjfnioplddppaaDoorRows.lean that lists a variable, with what it lists TIED to the program's text (the seventh form; the later family's looks); each row that meets fmt, with fmt's text TOLD by the authors' own Lean function (tested against real Go, not proved from fmt's source: count such statements apart). THE CARD IS WHAT COUNTS. Prove the row's statement (the work); the ties are given (YtjjfnioplddppaaDoorTie.lean); close each card by the builder's one call (the guide's Derived/Test/ToyasCard.lean, 'card_holds'). Laid BY PROGRAM, IN A SANDBOX (cutbox-door.mjs). By AI agents, Wed Nov 11 2026. No macro, syntax, notation, axiom, sorry.
-/
import Derived.Test.YtjjfnioplddppaaDoorRows
import GoSem.ClaimSeven
namespace Go.Proofs.YtjjfnioplddppaaDoor
namespace Rows

/-- THE TIED CARD OF 'viaductlaw17.CrcFixed'. -/
def crcFixedCard : Claim7 := { stood := { row := crcFixedRow, standIns := [], harness := (true, "6aae8e358f668096ddb30a822214c07145f4e136668f0d6979270f239b7650a3"), looks := false }, kinds := [], alts := [], laidByText := true, laidKinds := [.data], laidTests := true, laidLooks := .later }
def CrcFixedCardSaid : Prop := Claim7.holds Tryd.pinned (.plain (OpenSpec.ofChange crcFixedSpec)) crcFixedCard

/-- THE SECOND FORM's CARD OF 'viaductlaw17.CrcFixed'. -/
def crcFixedUptoCard : Claim7 := { stood := { row := crcFixedUptoRow, standIns := [], harness := (true, "6aae8e358f668096ddb30a822214c07145f4e136668f0d6979270f239b7650a3"), looks := false }, kinds := [], alts := [], laidByText := true, laidKinds := [.data], laidTests := true, laidLooks := .later }
def CrcFixedUptoCardSaid : Prop := Claim7.holds Tryd.pinned (.plain (OpenSpec.upto crcFixedSpec)) crcFixedUptoCard
end Rows
end Go.Proofs.YtjjfnioplddppaaDoor
