/-
  DERIVED. GIVEN WITH THE SEED: THE CARDS: each row of YtamedcnjanichaaDoorRows.lean that lists a variable, with what it lists TIED to the program's text (the seventh form; the later family's looks); each row that meets fmt, with fmt's text TOLD by the authors' own Lean function (tested against real Go, not proved from fmt's source: count such statements apart). THE CARD IS WHAT COUNTS. Prove the row's statement (the work); the ties are given (YtamedcnjanichaaDoorTie.lean); close each card by the builder's one call (the guide's Derived/Test/ToyasCard.lean, 'card_holds'). Laid BY PROGRAM, IN A SANDBOX (cutbox-door.mjs). By AI agents, Wed Nov 11 2026. No macro, syntax, notation, axiom, sorry.
-/
import Derived.Test.YtamedcnjanichaaDoorRows
import GoSem.ClaimSeven
namespace Go.Proofs.YtamedcnjanichaaDoor
namespace Rows

/-- THE TIED CARD OF 'viaductlaw19.ImageThere'. -/
def imageThereCard : Claim7 := { stood := { row := imageThereRow, standIns := [], harness := (true, "a047b003e69bd58c280acea68a306c9ce3f61d95a037855fb99cbeda5ba8fe3d"), looks := true }, kinds := [], alts := [], laidByText := true, laidKinds := [.data, .handle], laidTests := true, laidLooks := .later }
def ImageThereCardSaid : Prop := Claim7.holds Tryd.pinned (.plain (OpenSpec.ofChange imageThereSpec)) imageThereCard

/-- THE TIED CARD OF 'viaductlaw19.ImageBursts'. -/
def imageBurstsCard : Claim7 := { stood := { row := imageBurstsRow, standIns := [], harness := (true, "a047b003e69bd58c280acea68a306c9ce3f61d95a037855fb99cbeda5ba8fe3d"), looks := true }, kinds := [], alts := [], laidByText := true, laidKinds := [.data, .handle], laidTests := true, laidLooks := .later }
def ImageBurstsCardSaid : Prop := Claim7.holds Tryd.pinned (.plain (OpenSpec.ofChange imageBurstsSpec)) imageBurstsCard

/-- THE TIED CARD OF 'viaductlaw19.ImageCuts'. -/
def imageCutsCard : Claim7 := { stood := { row := imageCutsRow, standIns := [], harness := (true, "a047b003e69bd58c280acea68a306c9ce3f61d95a037855fb99cbeda5ba8fe3d"), looks := true }, kinds := [], alts := [], laidByText := true, laidKinds := [.data, .handle], laidTests := true, laidLooks := .later }
def ImageCutsCardSaid : Prop := Claim7.holds Tryd.pinned (.plain (OpenSpec.ofChange imageCutsSpec)) imageCutsCard

/-- THE TIED CARD OF 'viaductlaw19.ImageFixed'. -/
def imageFixedCard : Claim7 := { stood := { row := imageFixedRow, standIns := [], harness := (true, "a047b003e69bd58c280acea68a306c9ce3f61d95a037855fb99cbeda5ba8fe3d"), looks := true }, kinds := [], alts := [], laidByText := true, laidKinds := [.data, .handle], laidTests := true, laidLooks := .later }
def ImageFixedCardSaid : Prop := Claim7.holds Tryd.pinned (.plain (OpenSpec.ofChange imageFixedSpec)) imageFixedCard

/-- THE SECOND FORM's CARD OF 'viaductlaw19.ImageThere'. -/
def imageThereUptoCard : Claim7 := { stood := { row := imageThereUptoRow, standIns := [], harness := (true, "a047b003e69bd58c280acea68a306c9ce3f61d95a037855fb99cbeda5ba8fe3d"), looks := true }, kinds := [], alts := [], laidByText := true, laidKinds := [.data, .handle], laidTests := true, laidLooks := .later }
def ImageThereUptoCardSaid : Prop := Claim7.holds Tryd.pinned (.plain (OpenSpec.upto imageThereSpec)) imageThereUptoCard

/-- THE SECOND FORM's CARD OF 'viaductlaw19.ImageBursts'. -/
def imageBurstsUptoCard : Claim7 := { stood := { row := imageBurstsUptoRow, standIns := [], harness := (true, "a047b003e69bd58c280acea68a306c9ce3f61d95a037855fb99cbeda5ba8fe3d"), looks := true }, kinds := [], alts := [], laidByText := true, laidKinds := [.data, .handle], laidTests := true, laidLooks := .later }
def ImageBurstsUptoCardSaid : Prop := Claim7.holds Tryd.pinned (.plain (OpenSpec.upto imageBurstsSpec)) imageBurstsUptoCard

/-- THE SECOND FORM's CARD OF 'viaductlaw19.ImageCuts'. -/
def imageCutsUptoCard : Claim7 := { stood := { row := imageCutsUptoRow, standIns := [], harness := (true, "a047b003e69bd58c280acea68a306c9ce3f61d95a037855fb99cbeda5ba8fe3d"), looks := true }, kinds := [], alts := [], laidByText := true, laidKinds := [.data, .handle], laidTests := true, laidLooks := .later }
def ImageCutsUptoCardSaid : Prop := Claim7.holds Tryd.pinned (.plain (OpenSpec.upto imageCutsSpec)) imageCutsUptoCard

/-- THE SECOND FORM's CARD OF 'viaductlaw19.ImageFixed'. -/
def imageFixedUptoCard : Claim7 := { stood := { row := imageFixedUptoRow, standIns := [], harness := (true, "a047b003e69bd58c280acea68a306c9ce3f61d95a037855fb99cbeda5ba8fe3d"), looks := true }, kinds := [], alts := [], laidByText := true, laidKinds := [.data, .handle], laidTests := true, laidLooks := .later }
def ImageFixedUptoCardSaid : Prop := Claim7.holds Tryd.pinned (.plain (OpenSpec.upto imageFixedSpec)) imageFixedUptoCard
end Rows
end Go.Proofs.YtamedcnjanichaaDoor
