/-
  DERIVED. GIVEN WITH THE SEED: THE CARDS: each row of YtldfhkdccbgdnaaDoorRows.lean that lists a variable, with what it lists TIED to the program's text (the seventh form; the later family's looks); each row that meets fmt, with fmt's text TOLD by the authors' own Lean function (tested against real Go, not proved from fmt's source: count such statements apart). THE CARD IS WHAT COUNTS. Prove the row's statement (the work); the ties are given (YtldfhkdccbgdnaaDoorTie.lean); close each card by the builder's one call (the guide's Derived/Test/ToyasCard.lean, 'card_holds'). Laid BY PROGRAM, IN A SANDBOX (cutbox-door.mjs). By AI agents, Wed Nov 11 2026. No macro, syntax, notation, axiom, sorry.
-/
import Derived.Test.YtldfhkdccbgdnaaDoorRows
import GoSem.ClaimSeven
namespace Go.Proofs.YtldfhkdccbgdnaaDoor
namespace Rows

/-- THE TIED CARD OF 'viaductlaw04.NormalOfs'. -/
def normalOfsCard : Claim7 := { stood := { row := normalOfsRow, standIns := [], harness := (true, "b375944957ddb12529b44e26cdb54c7a11e83ae6bb77350816c1021de03b188e"), looks := true }, kinds := [], alts := [], laidByText := true, laidKinds := [.handle], laidTests := true, laidLooks := .later }
def NormalOfsCardSaid : Prop := Claim7.holds Tryd.pinned (.plain (OpenSpec.ofChange normalOfsSpec)) normalOfsCard

/-- THE TIED CARD OF 'viaductlaw04.NormalTurns'. -/
def normalTurnsCard : Claim7 := { stood := { row := normalTurnsRow, standIns := [], harness := (true, "b375944957ddb12529b44e26cdb54c7a11e83ae6bb77350816c1021de03b188e"), looks := true }, kinds := [], alts := [], laidByText := true, laidKinds := [.handle], laidTests := true, laidLooks := .later }
def NormalTurnsCardSaid : Prop := Claim7.holds Tryd.pinned (.plain (OpenSpec.ofChange normalTurnsSpec)) normalTurnsCard

/-- THE TIED CARD OF 'viaductlaw04.NormalMerges'. -/
def normalMergesCard : Claim7 := { stood := { row := normalMergesRow, standIns := [], harness := (true, "b375944957ddb12529b44e26cdb54c7a11e83ae6bb77350816c1021de03b188e"), looks := true }, kinds := [], alts := [], laidByText := true, laidKinds := [.handle], laidTests := true, laidLooks := .later }
def NormalMergesCardSaid : Prop := Claim7.holds Tryd.pinned (.plain (OpenSpec.ofChange normalMergesSpec)) normalMergesCard

/-- THE TIED CARD OF 'viaductlaw04.NormalFixed'. -/
def normalFixedCard : Claim7 := { stood := { row := normalFixedRow, standIns := [], harness := (true, "b375944957ddb12529b44e26cdb54c7a11e83ae6bb77350816c1021de03b188e"), looks := true }, kinds := [], alts := [], laidByText := true, laidKinds := [.handle], laidTests := true, laidLooks := .later }
def NormalFixedCardSaid : Prop := Claim7.holds Tryd.pinned (.plain (OpenSpec.ofChange normalFixedSpec)) normalFixedCard

/-- THE SECOND FORM's CARD OF 'viaductlaw04.NormalOfs'. -/
def normalOfsUptoCard : Claim7 := { stood := { row := normalOfsUptoRow, standIns := [], harness := (true, "b375944957ddb12529b44e26cdb54c7a11e83ae6bb77350816c1021de03b188e"), looks := true }, kinds := [], alts := [], laidByText := true, laidKinds := [.handle], laidTests := true, laidLooks := .later }
def NormalOfsUptoCardSaid : Prop := Claim7.holds Tryd.pinned (.plain (OpenSpec.upto normalOfsSpec)) normalOfsUptoCard

/-- THE SECOND FORM's CARD OF 'viaductlaw04.NormalTurns'. -/
def normalTurnsUptoCard : Claim7 := { stood := { row := normalTurnsUptoRow, standIns := [], harness := (true, "b375944957ddb12529b44e26cdb54c7a11e83ae6bb77350816c1021de03b188e"), looks := true }, kinds := [], alts := [], laidByText := true, laidKinds := [.handle], laidTests := true, laidLooks := .later }
def NormalTurnsUptoCardSaid : Prop := Claim7.holds Tryd.pinned (.plain (OpenSpec.upto normalTurnsSpec)) normalTurnsUptoCard

/-- THE SECOND FORM's CARD OF 'viaductlaw04.NormalMerges'. -/
def normalMergesUptoCard : Claim7 := { stood := { row := normalMergesUptoRow, standIns := [], harness := (true, "b375944957ddb12529b44e26cdb54c7a11e83ae6bb77350816c1021de03b188e"), looks := true }, kinds := [], alts := [], laidByText := true, laidKinds := [.handle], laidTests := true, laidLooks := .later }
def NormalMergesUptoCardSaid : Prop := Claim7.holds Tryd.pinned (.plain (OpenSpec.upto normalMergesSpec)) normalMergesUptoCard

/-- THE SECOND FORM's CARD OF 'viaductlaw04.NormalFixed'. -/
def normalFixedUptoCard : Claim7 := { stood := { row := normalFixedUptoRow, standIns := [], harness := (true, "b375944957ddb12529b44e26cdb54c7a11e83ae6bb77350816c1021de03b188e"), looks := true }, kinds := [], alts := [], laidByText := true, laidKinds := [.handle], laidTests := true, laidLooks := .later }
def NormalFixedUptoCardSaid : Prop := Claim7.holds Tryd.pinned (.plain (OpenSpec.upto normalFixedSpec)) normalFixedUptoCard
end Rows
end Go.Proofs.YtldfhkdccbgdnaaDoor
