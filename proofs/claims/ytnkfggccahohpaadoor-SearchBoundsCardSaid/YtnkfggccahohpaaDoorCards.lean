/-
  DERIVED. GIVEN WITH THE SEED: THE CARDS: each row of YtnkfggccahohpaaDoorRows.lean that lists a variable, with what it lists TIED to the program's text (the seventh form; the later family's looks); each row that meets fmt, with fmt's text TOLD by the authors' own Lean function (tested against real Go, not proved from fmt's source: count such statements apart). THE CARD IS WHAT COUNTS. Prove the row's statement (the work); the ties are given (YtnkfggccahohpaaDoorTie.lean); close each card by the builder's one call (the guide's Derived/Test/ToyasCard.lean, 'card_holds'). Laid BY PROGRAM, IN A SANDBOX (cutbox-door.mjs). By AI agents, Wed Nov 11 2026. No macro, syntax, notation, axiom, sorry.
-/
import Derived.Test.YtnkfggccahohpaaDoorRows
import GoSem.ClaimSeven
namespace Go.Proofs.YtnkfggccahohpaaDoor
namespace Rows

/-- THE TIED CARD OF 'viaductlaw08.SearchFroms'. -/
def searchFromsCard : Claim7 := { stood := { row := searchFromsRow, standIns := [], harness := (true, "921a543d14bd2c1a2401eb36fee292cfa48b80a842e9724ba3a71a9506823ac3"), looks := true }, kinds := [], alts := [], laidByText := true, laidKinds := [.handle], laidTests := true, laidLooks := .later }
def SearchFromsCardSaid : Prop := Claim7.holds Tryd.pinned (.plain (OpenSpec.ofChange searchFromsSpec)) searchFromsCard

/-- THE TIED CARD OF 'viaductlaw08.SearchBounds'. -/
def searchBoundsCard : Claim7 := { stood := { row := searchBoundsRow, standIns := [], harness := (true, "921a543d14bd2c1a2401eb36fee292cfa48b80a842e9724ba3a71a9506823ac3"), looks := true }, kinds := [], alts := [], laidByText := true, laidKinds := [.handle], laidTests := true, laidLooks := .later }
def SearchBoundsCardSaid : Prop := Claim7.holds Tryd.pinned (.plain (OpenSpec.ofChange searchBoundsSpec)) searchBoundsCard

/-- THE TIED CARD OF 'viaductlaw08.SearchPaths'. -/
def searchPathsCard : Claim7 := { stood := { row := searchPathsRow, standIns := [], harness := (true, "921a543d14bd2c1a2401eb36fee292cfa48b80a842e9724ba3a71a9506823ac3"), looks := true }, kinds := [], alts := [], laidByText := true, laidKinds := [.handle], laidTests := true, laidLooks := .later }
def SearchPathsCardSaid : Prop := Claim7.holds Tryd.pinned (.plain (OpenSpec.ofChange searchPathsSpec)) searchPathsCard

/-- THE SECOND FORM's CARD OF 'viaductlaw08.SearchFroms'. -/
def searchFromsUptoCard : Claim7 := { stood := { row := searchFromsUptoRow, standIns := [], harness := (true, "921a543d14bd2c1a2401eb36fee292cfa48b80a842e9724ba3a71a9506823ac3"), looks := true }, kinds := [], alts := [], laidByText := true, laidKinds := [.handle], laidTests := true, laidLooks := .later }
def SearchFromsUptoCardSaid : Prop := Claim7.holds Tryd.pinned (.plain (OpenSpec.upto searchFromsSpec)) searchFromsUptoCard

/-- THE SECOND FORM's CARD OF 'viaductlaw08.SearchBounds'. -/
def searchBoundsUptoCard : Claim7 := { stood := { row := searchBoundsUptoRow, standIns := [], harness := (true, "921a543d14bd2c1a2401eb36fee292cfa48b80a842e9724ba3a71a9506823ac3"), looks := true }, kinds := [], alts := [], laidByText := true, laidKinds := [.handle], laidTests := true, laidLooks := .later }
def SearchBoundsUptoCardSaid : Prop := Claim7.holds Tryd.pinned (.plain (OpenSpec.upto searchBoundsSpec)) searchBoundsUptoCard

/-- THE SECOND FORM's CARD OF 'viaductlaw08.SearchPaths'. -/
def searchPathsUptoCard : Claim7 := { stood := { row := searchPathsUptoRow, standIns := [], harness := (true, "921a543d14bd2c1a2401eb36fee292cfa48b80a842e9724ba3a71a9506823ac3"), looks := true }, kinds := [], alts := [], laidByText := true, laidKinds := [.handle], laidTests := true, laidLooks := .later }
def SearchPathsUptoCardSaid : Prop := Claim7.holds Tryd.pinned (.plain (OpenSpec.upto searchPathsSpec)) searchPathsUptoCard
end Rows
end Go.Proofs.YtnkfggccahohpaaDoor
