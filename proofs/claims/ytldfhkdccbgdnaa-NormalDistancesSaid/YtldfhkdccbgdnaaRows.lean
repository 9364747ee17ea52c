/-
  No cell of these rows narrows 'for every input' (looked for: loops, veiled, ifaces, maps, wideKeys, modest, calm, conditions, laid).
  DERIVED. THE GIVEN ROWS OF THIS SEAT. 2 by the template 'for every input the law returns true; each argument reads behind the call as it read before'; 0 by the template 'total and deterministic' (their statements: YtldfhkdccbgdnaaTotals.lean).
  GIVEN WITH THE SEED: the statements are not yours to turn. If you find one false, say at which input.
  Laid BY PROGRAM, IN A SANDBOX (cutbox-rows.mjs): the forced cells as the released guide's own fill.sh prints them over the translation 50d5dae5465a3e5e… (all of the seat's roots in one cut). By AI agents, Wed Nov 11 2026. No macro, syntax, notation, axiom, sorry.
-/
import Derived.Test.YtldfhkdccbgdnaaChecked
import GoSem.Claim
import GoSem.ClaimJoined
import GoSem.ClaimMapViews
import Derived.JoinedTies
import Derived.KernelRfl
namespace Go.Proofs.Ytldfhkdccbgdnaa
/- THE CELL 'sum', in the pinned program and in every row, IS THE sha256 OF THE DUMP (.gsa) THAT YtldfhkdccbgdnaaProg.lean LOADS. Nothing in Lean hashes anything: it is a label: what it is worth is what the hold of that sum in a sandbox is worth. -/
noncomputable def Try.pinned : Pinned := { name := "ytldfhkdccbgdnaa", sum := "50d5dae5465a3e5e95e13a1bd592841e6fd55462db3b442d8a8d06ec2476431c", checked := Try.checked }
namespace Rows
def none {H : Type} : Left H := { results := [], args := [] }

/-- 'viaductlaw04.NormalDistances': WHATEVER THE INPUT: true; the input reads as it did. -/
def normalDistancesSpec : ChangeSpec := { name := "normalDistances", fn := fun _ => fun
  | [d1, d2] => { results := [.lit (.bool true)], args := [d1, d2] }
  | _ => none }
def normalDistancesRow : OpenClaim := { program := "ytldfhkdccbgdnaa", sum := "50d5dae5465a3e5e95e13a1bd592841e6fd55462db3b442d8a8d06ec2476431c", func := "viaduct/viaductlaw04.NormalDistances", spec := "normalDistances", unfollowed := true, recurses := true, apart := false }
def NormalDistancesSaid : Prop := normalDistancesRow.holds Try.pinned (OpenSpec.ofChange normalDistancesSpec)

/-- ITS FALSE NEIGHBOUR: 'it returns false'. Refute it at one input. -/
def normalDistancesWrong : ChangeSpec := { name := "normalDistances", fn := fun _ => fun
  | [d1, d2] => { results := [.lit (.bool false)], args := [d1, d2] }
  | _ => none }
def NormalDistancesWrongFalsely : Prop := normalDistancesRow.holds Try.pinned (OpenSpec.ofChange normalDistancesWrong)

/-- 'viaductlaw04.NormalTwice': WHATEVER THE INPUT: true; the input reads as it did. -/
def normalTwiceSpec : ChangeSpec := { name := "normalTwice", fn := fun _ => fun
  | [d] => { results := [.lit (.bool true)], args := [d] }
  | _ => none }
def normalTwiceRow : OpenClaim := { program := "ytldfhkdccbgdnaa", sum := "50d5dae5465a3e5e95e13a1bd592841e6fd55462db3b442d8a8d06ec2476431c", func := "viaduct/viaductlaw04.NormalTwice", spec := "normalTwice", unfollowed := true, recurses := true, apart := false }
def NormalTwiceSaid : Prop := normalTwiceRow.holds Try.pinned (OpenSpec.ofChange normalTwiceSpec)

/-- ITS FALSE NEIGHBOUR: 'it returns false'. Refute it at one input. -/
def normalTwiceWrong : ChangeSpec := { name := "normalTwice", fn := fun _ => fun
  | [d] => { results := [.lit (.bool false)], args := [d] }
  | _ => none }
def NormalTwiceWrongFalsely : Prop := normalTwiceRow.holds Try.pinned (OpenSpec.ofChange normalTwiceWrong)

/- THE SECOND FORM. 'bulk': how many values and letters a reading holds, each counted each time it is reached (what is shared counts as often as it is met; a slice's spare places count too). A statement '..UptoSaid' is the law's where the arguments, and the package variables that the reading takes, are together of bulk at most 1048576: NARROWER than '..Said'. Prove '..Said' where nothing that the law and all that it calls make is longer than what came in: it says more and counts as full. Else prove '..UptoSaid'. A law counts once. -/
mutual
def uptoBulk {H : Type} : DataW H → Nat
  | .lit (.string bytes) => bytes.length + 1
  | .lit _ => 1
  | .nil => 1
  | .ptr d => uptoBulk d + 1
  | .slice elems spare => uptoBulkAll elems + uptoBulkAll spare + 1
  | .agg parts => uptoBulkAll parts + 1
  | .iface _ d => uptoBulk d + 1
  | .map entries => uptoBulkEntries entries + 1
  | .held _ => 1
def uptoBulkAll {H : Type} : List (DataW H) → Nat
  | [] => 0
  | d :: r => uptoBulk d + uptoBulkAll r
def uptoBulkEntries {H : Type} : List (Lit × DataW H) → Nat
  | [] => 0
  | x :: r => uptoBulkEntry x + uptoBulkEntries r
def uptoBulkEntry {H : Type} : Lit × DataW H → Nat
  | (.string bytes, d) => bytes.length + uptoBulk d + 1
  | (_, d) => uptoBulk d + 1
 end
def uptoSmall : (H : Type) → List (DataW H) → Bool := fun _ ds => decide (uptoBulkAll ds ≤ 1048576)
def OpenSpec.upto (s : _root_.Go.ChangeSpec) : _root_.Go.OpenSpec := { _root_.Go.OpenSpec.ofChange s with cond := some uptoSmall }

/-- 'viaductlaw04.NormalDistances', WHERE WHAT IT READS IS OF BULK AT MOST 1048576: true; the input reads as it did. -/
def normalDistancesUptoRow : OpenClaim := { program := "ytldfhkdccbgdnaa", sum := "50d5dae5465a3e5e95e13a1bd592841e6fd55462db3b442d8a8d06ec2476431c", func := "viaduct/viaductlaw04.NormalDistances", spec := "normalDistances", unfollowed := true, recurses := true, apart := false, narrowed := true }
def NormalDistancesUptoSaid : Prop := normalDistancesUptoRow.holds Try.pinned (OpenSpec.upto normalDistancesSpec)

/-- 'viaductlaw04.NormalTwice', WHERE WHAT IT READS IS OF BULK AT MOST 1048576: true; the input reads as it did. -/
def normalTwiceUptoRow : OpenClaim := { program := "ytldfhkdccbgdnaa", sum := "50d5dae5465a3e5e95e13a1bd592841e6fd55462db3b442d8a8d06ec2476431c", func := "viaduct/viaductlaw04.NormalTwice", spec := "normalTwice", unfollowed := true, recurses := true, apart := false, narrowed := true }
def NormalTwiceUptoSaid : Prop := normalTwiceUptoRow.holds Try.pinned (OpenSpec.upto normalTwiceSpec)

end Rows
end Go.Proofs.Ytldfhkdccbgdnaa
