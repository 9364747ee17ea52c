/-
  DERIVED. GIVEN WITH THE SEED: THE CARDS: each row of YtdfjmfgbdnpkbaaDoorRows.lean that lists a variable, with what it lists TIED to the program's text (the seventh form; the later family's looks); each row that meets fmt, with fmt's text TOLD by the authors' own Lean function (tested against real Go, not proved from fmt's source: count such statements apart). THE CARD IS WHAT COUNTS. Prove the row's statement (the work); the ties are given (YtdfjmfgbdnpkbaaDoorTie.lean); close each card by the builder's one call (the guide's Derived/Test/ToyasCard.lean, 'card_holds'). Laid BY PROGRAM, IN A SANDBOX (cutbox-door.mjs). By AI agents, Wed Nov 11 2026. No macro, syntax, notation, axiom, sorry.
-/
import Derived.Test.YtdfjmfgbdnpkbaaDoorRows
import GoSem.ClaimSeven
namespace Go.Proofs.YtdfjmfgbdnpkbaaDoor
namespace Rows

/-- THE TIED CARD OF 'viaductlaw09.WalkLengths'. -/
def walkLengthsCard : Claim7 := { stood := { row := walkLengthsRow, standIns := [], harness := (true, "b980c9f6e0a73b1859a92438f269b95eedc1862d042077fc5beb2e4a7bee64dd"), looks := true }, kinds := [], alts := [], laidByText := true, laidKinds := [.handle], laidTests := true, laidLooks := .later }
def WalkLengthsCardSaid : Prop := Claim7.holds Tryd.pinned (.plain (OpenSpec.ofChange walkLengthsSpec)) walkLengthsCard

/-- THE TIED CARD OF 'viaductlaw09.WalkLists'. -/
def walkListsCard : Claim7 := { stood := { row := walkListsRow, standIns := [], harness := (true, "b980c9f6e0a73b1859a92438f269b95eedc1862d042077fc5beb2e4a7bee64dd"), looks := true }, kinds := [], alts := [], laidByText := true, laidKinds := [.handle], laidTests := true, laidLooks := .later }
def WalkListsCardSaid : Prop := Claim7.holds Tryd.pinned (.plain (OpenSpec.ofChange walkListsSpec)) walkListsCard

/-- THE TIED CARD OF 'viaductlaw09.WalkFixed'. -/
def walkFixedCard : Claim7 := { stood := { row := walkFixedRow, standIns := [], harness := (true, "b980c9f6e0a73b1859a92438f269b95eedc1862d042077fc5beb2e4a7bee64dd"), looks := true }, kinds := [], alts := [], laidByText := true, laidKinds := [.handle], laidTests := true, laidLooks := .later }
def WalkFixedCardSaid : Prop := Claim7.holds Tryd.pinned (.plain (OpenSpec.ofChange walkFixedSpec)) walkFixedCard

/-- THE SECOND FORM's CARD OF 'viaductlaw09.WalkLengths'. -/
def walkLengthsUptoCard : Claim7 := { stood := { row := walkLengthsUptoRow, standIns := [], harness := (true, "b980c9f6e0a73b1859a92438f269b95eedc1862d042077fc5beb2e4a7bee64dd"), looks := true }, kinds := [], alts := [], laidByText := true, laidKinds := [.handle], laidTests := true, laidLooks := .later }
def WalkLengthsUptoCardSaid : Prop := Claim7.holds Tryd.pinned (.plain (OpenSpec.upto walkLengthsSpec)) walkLengthsUptoCard

/-- THE SECOND FORM's CARD OF 'viaductlaw09.WalkLists'. -/
def walkListsUptoCard : Claim7 := { stood := { row := walkListsUptoRow, standIns := [], harness := (true, "b980c9f6e0a73b1859a92438f269b95eedc1862d042077fc5beb2e4a7bee64dd"), looks := true }, kinds := [], alts := [], laidByText := true, laidKinds := [.handle], laidTests := true, laidLooks := .later }
def WalkListsUptoCardSaid : Prop := Claim7.holds Tryd.pinned (.plain (OpenSpec.upto walkListsSpec)) walkListsUptoCard

/-- THE SECOND FORM's CARD OF 'viaductlaw09.WalkFixed'. -/
def walkFixedUptoCard : Claim7 := { stood := { row := walkFixedUptoRow, standIns := [], harness := (true, "b980c9f6e0a73b1859a92438f269b95eedc1862d042077fc5beb2e4a7bee64dd"), looks := true }, kinds := [], alts := [], laidByText := true, laidKinds := [.handle], laidTests := true, laidLooks := .later }
def WalkFixedUptoCardSaid : Prop := Claim7.holds Tryd.pinned (.plain (OpenSpec.upto walkFixedSpec)) walkFixedUptoCard
end Rows
end Go.Proofs.YtdfjmfgbdnpkbaaDoor
