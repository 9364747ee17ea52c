/-
  NARROWER THAN 'FOR EVERY INPUT', by the rows' own cells (each row's printed sentence says how): CsrBuilds: laid · CsrChecks: laid · CsrRows: laid · CsrFixed: laid.
  DERIVED. THE GIVEN ROWS OF THIS SEAT. 4 by the template 'for every input the law returns true; each argument reads behind the call as it read before'; 0 by the template 'total and deterministic' (their statements: YtgfmalimnbgdeaaDoorTotals.lean).
  GIVEN WITH THE SEED: the statements are not yours to turn. If you find one false, say at which input.
  Laid BY PROGRAM, IN A SANDBOX (cutbox-rows.mjs): the forced cells as the released guide's own fill.sh prints them over the translation 520bf1ba4739f45f… (all of the seat's roots in one cut). By AI agents, Wed Nov 11 2026. No macro, syntax, notation, axiom, sorry.
-/
import Derived.Test.YtgfmalimnbgdeaaDoorChecked
import GoSem.Claim
import GoSem.ClaimJoined
import GoSem.ClaimMapViews
import Derived.JoinedTies
import Derived.KernelRfl
namespace Go.Proofs.YtgfmalimnbgdeaaDoor
/- THE CELL 'sum', in the pinned program and in every row, IS THE sha256 OF THE DUMP (.gsa) THAT YtgfmalimnbgdeaaDoorProg.lean LOADS. Nothing in Lean hashes anything: it is a label: what it is worth is what the hold of that sum in a sandbox is worth. -/
noncomputable def Tryd.pinned : Pinned := { name := "ytgfmalimnbgdeaadoor", sum := "520bf1ba4739f45fdf4208112f28a3211667438c0d2c0ae7b1fab23ea041f2a5", checked := Tryd.checked }
namespace Rows
def none {H : Type} : Left H := { results := [], args := [] }

/- WHAT THE LISTED PACKAGE-LEVEL VARIABLES READ AS WHEN THE CALL BEGINS. Each datum BY PROGRAM (the guide's laid-datum.mjs) off the statement by which the dump's own 'gosem.cut.vars' lays the variable. In a bare row this is a premise. The card (YtgfmalimnbgdeaaDoorCards.lean) ties it to the program's text. -/
def laid_errors_errorType {H : Type} : DataW H := .iface "internal/reflectlite.rtype" (.agg [.ptr (.lit (.string [101, 114, 114, 111, 114]))])

/-- 'viaductlaw05.CsrBuilds': WHATEVER THE INPUT: true; the input reads as it did. -/
def csrBuildsSpec : ChangeSpec := { name := "csrBuilds", fn := fun _ => fun
  | [d] => { results := [.lit (.bool true)], args := [d] }
  | _ => none }
def csrBuildsRow : OpenClaim := { program := "ytgfmalimnbgdeaadoor", sum := "520bf1ba4739f45fdf4208112f28a3211667438c0d2c0ae7b1fab23ea041f2a5", func := "viaduct/viaductlaw05.CsrBuilds", spec := "csrBuilds", inPlace := ["internal/reflectlite.ValueOf", "(internal/reflectlite.Value).Type", "(internal/reflectlite.Value).IsNil", "internal/reflectlite.TypeOf", "(internal/reflectlite.Value).Elem", "(internal/reflectlite.Value).Set"], unfollowed := true, recurses := true, named := ["errors.errorType"], apart := false, laid := [("errors.errorType", laid_errors_errorType)] }
def CsrBuildsSaid : Prop := csrBuildsRow.holds Tryd.pinned (OpenSpec.ofChange csrBuildsSpec)

/-- ITS FALSE NEIGHBOUR: 'it returns false'. Refute it at one input. -/
def csrBuildsWrong : ChangeSpec := { name := "csrBuilds", fn := fun _ => fun
  | [d] => { results := [.lit (.bool false)], args := [d] }
  | _ => none }
def CsrBuildsWrongFalsely : Prop := csrBuildsRow.holds Tryd.pinned (OpenSpec.ofChange csrBuildsWrong)

/-- 'viaductlaw05.CsrChecks': WHATEVER THE INPUT: true; the input reads as it did. -/
def csrChecksSpec : ChangeSpec := { name := "csrChecks", fn := fun _ => fun
  | [d1, d2, d3] => { results := [.lit (.bool true)], args := [d1, d2, d3] }
  | _ => none }
def csrChecksRow : OpenClaim := { program := "ytgfmalimnbgdeaadoor", sum := "520bf1ba4739f45fdf4208112f28a3211667438c0d2c0ae7b1fab23ea041f2a5", func := "viaduct/viaductlaw05.CsrChecks", spec := "csrChecks", inPlace := ["internal/reflectlite.ValueOf", "(internal/reflectlite.Value).Type", "(internal/reflectlite.Value).IsNil", "internal/reflectlite.TypeOf", "(internal/reflectlite.Value).Elem", "(internal/reflectlite.Value).Set"], unfollowed := true, recurses := true, named := ["errors.errorType"], apart := false, laid := [("errors.errorType", laid_errors_errorType)] }
def CsrChecksSaid : Prop := csrChecksRow.holds Tryd.pinned (OpenSpec.ofChange csrChecksSpec)

/-- ITS FALSE NEIGHBOUR: 'it returns false'. Refute it at one input. -/
def csrChecksWrong : ChangeSpec := { name := "csrChecks", fn := fun _ => fun
  | [d1, d2, d3] => { results := [.lit (.bool false)], args := [d1, d2, d3] }
  | _ => none }
def CsrChecksWrongFalsely : Prop := csrChecksRow.holds Tryd.pinned (OpenSpec.ofChange csrChecksWrong)

/-- 'viaductlaw05.CsrRows': WHATEVER THE INPUT: true; the input reads as it did. -/
def csrRowsSpec : ChangeSpec := { name := "csrRows", fn := fun _ => fun
  | [d] => { results := [.lit (.bool true)], args := [d] }
  | _ => none }
def csrRowsRow : OpenClaim := { program := "ytgfmalimnbgdeaadoor", sum := "520bf1ba4739f45fdf4208112f28a3211667438c0d2c0ae7b1fab23ea041f2a5", func := "viaduct/viaductlaw05.CsrRows", spec := "csrRows", inPlace := ["internal/reflectlite.ValueOf", "(internal/reflectlite.Value).Type", "(internal/reflectlite.Value).IsNil", "internal/reflectlite.TypeOf", "(internal/reflectlite.Value).Elem", "(internal/reflectlite.Value).Set"], unfollowed := true, recurses := true, named := ["errors.errorType"], apart := false, laid := [("errors.errorType", laid_errors_errorType)] }
def CsrRowsSaid : Prop := csrRowsRow.holds Tryd.pinned (OpenSpec.ofChange csrRowsSpec)

/-- ITS FALSE NEIGHBOUR: 'it returns false'. Refute it at one input. -/
def csrRowsWrong : ChangeSpec := { name := "csrRows", fn := fun _ => fun
  | [d] => { results := [.lit (.bool false)], args := [d] }
  | _ => none }
def CsrRowsWrongFalsely : Prop := csrRowsRow.holds Tryd.pinned (OpenSpec.ofChange csrRowsWrong)

/-- 'viaductlaw05.CsrFixed': WHATEVER THE INPUT: true; the input reads as it did. -/
def csrFixedSpec : ChangeSpec := { name := "csrFixed", fn := fun _ => fun
  | [] => { results := [.lit (.bool true)], args := [] }
  | _ => none }
def csrFixedRow : OpenClaim := { program := "ytgfmalimnbgdeaadoor", sum := "520bf1ba4739f45fdf4208112f28a3211667438c0d2c0ae7b1fab23ea041f2a5", func := "viaduct/viaductlaw05.CsrFixed", spec := "csrFixed", inPlace := ["internal/reflectlite.ValueOf", "(internal/reflectlite.Value).Type", "(internal/reflectlite.Value).IsNil", "internal/reflectlite.TypeOf", "(internal/reflectlite.Value).Elem", "(internal/reflectlite.Value).Set"], unfollowed := true, recurses := true, named := ["errors.errorType"], apart := false, laid := [("errors.errorType", laid_errors_errorType)] }
def CsrFixedSaid : Prop := csrFixedRow.holds Tryd.pinned (OpenSpec.ofChange csrFixedSpec)

/-- ITS FALSE NEIGHBOUR: 'it returns false'. Refute it at one input. -/
def csrFixedWrong : ChangeSpec := { name := "csrFixed", fn := fun _ => fun
  | [] => { results := [.lit (.bool false)], args := [] }
  | _ => none }
def CsrFixedWrongFalsely : Prop := csrFixedRow.holds Tryd.pinned (OpenSpec.ofChange csrFixedWrong)

/- THE SECOND FORM. 'bulk': how many values and letters a reading holds, each counted each time it is reached (what is shared counts as often as it is met; a slice's spare places count too). A statement '..UptoSaid' is the law's where the arguments, and the package variables that the reading takes, are together of bulk at most 1048576: NARROWER than '..Said'. Prove '..Said' where nothing that the law and all that it calls make is longer than what came in: it says more and counts as full. Else prove '..UptoSaid'. A law counts once. -/
mutual
def uptoBulk {H : Type} : DataW H → Nat
  | .lit (.string bytes) => bytes.length + 1
  | .lit _ => 1
  | .nil => 1
  | .ptr d => uptoBulk d + 1
  | .slice elems spare => uptoBulkAll elems + uptoBulkAll spare + 1
  | .agg parts => uptoBulkAll parts + 1
  | .iface _ d => uptoBulk d + 1
  | .map entries => uptoBulkEntries entries + 1
  | .held _ => 1
def uptoBulkAll {H : Type} : List (DataW H) → Nat
  | [] => 0
  | d :: r => uptoBulk d + uptoBulkAll r
def uptoBulkEntries {H : Type} : List (Lit × DataW H) → Nat
  | [] => 0
  | x :: r => uptoBulkEntry x + uptoBulkEntries r
def uptoBulkEntry {H : Type} : Lit × DataW H → Nat
  | (.string bytes, d) => bytes.length + uptoBulk d + 1
  | (_, d) => uptoBulk d + 1
 end
def uptoSmall : (H : Type) → List (DataW H) → Bool := fun _ ds => decide (uptoBulkAll ds ≤ 1048576)
def OpenSpec.upto (s : _root_.Go.ChangeSpec) : _root_.Go.OpenSpec := { _root_.Go.OpenSpec.ofChange s with cond := some uptoSmall }

/-- 'viaductlaw05.CsrBuilds', WHERE WHAT IT READS IS OF BULK AT MOST 1048576: true; the input reads as it did. -/
def csrBuildsUptoRow : OpenClaim := { program := "ytgfmalimnbgdeaadoor", sum := "520bf1ba4739f45fdf4208112f28a3211667438c0d2c0ae7b1fab23ea041f2a5", func := "viaduct/viaductlaw05.CsrBuilds", spec := "csrBuilds", inPlace := ["internal/reflectlite.ValueOf", "(internal/reflectlite.Value).Type", "(internal/reflectlite.Value).IsNil", "internal/reflectlite.TypeOf", "(internal/reflectlite.Value).Elem", "(internal/reflectlite.Value).Set"], unfollowed := true, recurses := true, named := ["errors.errorType"], apart := false, laid := [("errors.errorType", laid_errors_errorType)], narrowed := true }
def CsrBuildsUptoSaid : Prop := csrBuildsUptoRow.holds Tryd.pinned (OpenSpec.upto csrBuildsSpec)

/-- 'viaductlaw05.CsrChecks', WHERE WHAT IT READS IS OF BULK AT MOST 1048576: true; the input reads as it did. -/
def csrChecksUptoRow : OpenClaim := { program := "ytgfmalimnbgdeaadoor", sum := "520bf1ba4739f45fdf4208112f28a3211667438c0d2c0ae7b1fab23ea041f2a5", func := "viaduct/viaductlaw05.CsrChecks", spec := "csrChecks", inPlace := ["internal/reflectlite.ValueOf", "(internal/reflectlite.Value).Type", "(internal/reflectlite.Value).IsNil", "internal/reflectlite.TypeOf", "(internal/reflectlite.Value).Elem", "(internal/reflectlite.Value).Set"], unfollowed := true, recurses := true, named := ["errors.errorType"], apart := false, laid := [("errors.errorType", laid_errors_errorType)], narrowed := true }
def CsrChecksUptoSaid : Prop := csrChecksUptoRow.holds Tryd.pinned (OpenSpec.upto csrChecksSpec)

/-- 'viaductlaw05.CsrRows', WHERE WHAT IT READS IS OF BULK AT MOST 1048576: true; the input reads as it did. -/
def csrRowsUptoRow : OpenClaim := { program := "ytgfmalimnbgdeaadoor", sum := "520bf1ba4739f45fdf4208112f28a3211667438c0d2c0ae7b1fab23ea041f2a5", func := "viaduct/viaductlaw05.CsrRows", spec := "csrRows", inPlace := ["internal/reflectlite.ValueOf", "(internal/reflectlite.Value).Type", "(internal/reflectlite.Value).IsNil", "internal/reflectlite.TypeOf", "(internal/reflectlite.Value).Elem", "(internal/reflectlite.Value).Set"], unfollowed := true, recurses := true, named := ["errors.errorType"], apart := false, laid := [("errors.errorType", laid_errors_errorType)], narrowed := true }
def CsrRowsUptoSaid : Prop := csrRowsUptoRow.holds Tryd.pinned (OpenSpec.upto csrRowsSpec)

/-- 'viaductlaw05.CsrFixed', WHERE WHAT IT READS IS OF BULK AT MOST 1048576: true; the input reads as it did. -/
def csrFixedUptoRow : OpenClaim := { program := "ytgfmalimnbgdeaadoor", sum := "520bf1ba4739f45fdf4208112f28a3211667438c0d2c0ae7b1fab23ea041f2a5", func := "viaduct/viaductlaw05.CsrFixed", spec := "csrFixed", inPlace := ["internal/reflectlite.ValueOf", "(internal/reflectlite.Value).Type", "(internal/reflectlite.Value).IsNil", "internal/reflectlite.TypeOf", "(internal/reflectlite.Value).Elem", "(internal/reflectlite.Value).Set"], unfollowed := true, recurses := true, named := ["errors.errorType"], apart := false, laid := [("errors.errorType", laid_errors_errorType)], narrowed := true }
def CsrFixedUptoSaid : Prop := csrFixedUptoRow.holds Tryd.pinned (OpenSpec.upto csrFixedSpec)

end Rows
end Go.Proofs.YtgfmalimnbgdeaaDoor
