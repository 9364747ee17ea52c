/-
  DERIVED. GIVEN WITH THE SEED: THE CARDS: each row of YtlehlghagddogaaGreatDoorRows.lean that lists a variable, with what it lists TIED to the program's text (the seventh form; the later family's looks); each row that meets fmt, with fmt's text TOLD by the authors' own Lean function (tested against real Go, not proved from fmt's source: count such statements apart). THE CARD IS WHAT COUNTS. Prove the row's statement (the work); the ties are given (YtlehlghagddogaaGreatDoorTie.lean); close each card by the builder's one call (the guide's Derived/Test/ToyasCard.lean, 'card_holds'). Laid BY PROGRAM, IN A SANDBOX (cutbox-door.mjs). By AI agents, Wed Nov 11 2026. No macro, syntax, notation, axiom, sorry.
-/
import Derived.Test.YtlehlghagddogaaGreatDoorRows
import GoSem.ClaimSeven
namespace Go.Proofs.YtlehlghagddogaaGreatDoor
namespace Rows

/-- THE TIED CARD OF 'viaductlaw20.ClimbSearches'. -/
def climbSearchesCard : Claim7 := { stood := { row := climbSearchesRow, standIns := [], harness := (true, "2e37389676a52460d464338b99551da65b374096f51df706c87669a098361812"), looks := true }, kinds := [], alts := [], laidByText := true, laidKinds := [.handle], laidTests := true, laidLooks := .later }
def ClimbSearchesCardSaid : Prop := Claim7.holds Tryz.pinned (.plain (OpenSpec.ofChange climbSearchesSpec)) climbSearchesCard

/-- THE SECOND FORM's CARD OF 'viaductlaw20.ClimbSearches'. -/
def climbSearchesUptoCard : Claim7 := { stood := { row := climbSearchesUptoRow, standIns := [], harness := (true, "2e37389676a52460d464338b99551da65b374096f51df706c87669a098361812"), looks := true }, kinds := [], alts := [], laidByText := true, laidKinds := [.handle], laidTests := true, laidLooks := .later }
def ClimbSearchesUptoCardSaid : Prop := Claim7.holds Tryz.pinned (.plain (OpenSpec.upto climbSearchesSpec)) climbSearchesUptoCard
end Rows
end Go.Proofs.YtlehlghagddogaaGreatDoor
