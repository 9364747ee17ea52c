/-
  No cell of these rows narrows 'for every input' (looked for: loops, veiled, ifaces, maps, wideKeys, modest, calm, conditions, laid).
  DERIVED. THE GIVEN ROWS OF THIS SEAT. 3 by the template 'for every input the law returns true; each argument reads behind the call as it read before'; 0 by the template 'total and deterministic' (their statements: YtpaamcapopnhoaaTotals.lean).
  GIVEN WITH THE SEED: the statements are not yours to turn. If you find one false, say at which input.
  Laid BY PROGRAM, IN A SANDBOX (cutbox-rows.mjs): the forced cells as the released guide's own fill.sh prints them over the translation f1c1070625c8dea5… (all of the seat's roots in one cut). By AI agents, Wed Nov 11 2026. No macro, syntax, notation, axiom, sorry.
-/
import Derived.Test.YtpaamcapopnhoaaChecked
import GoSem.Claim
import GoSem.ClaimJoined
import GoSem.ClaimMapViews
import Derived.JoinedTies
import Derived.KernelRfl
namespace Go.Proofs.Ytpaamcapopnhoaa
/- THE CELL 'sum', in the pinned program and in every row, IS THE sha256 OF THE DUMP (.gsa) THAT YtpaamcapopnhoaaProg.lean LOADS. Nothing in Lean hashes anything: it is a label: what it is worth is what the hold of that sum in a sandbox is worth. -/
noncomputable def Try.pinned : Pinned := { name := "ytpaamcapopnhoaa", sum := "f1c1070625c8dea5650d70cd84d3ba5f60883db87b5475b930e949d5bdd3edd1", checked := Try.checked }
namespace Rows
def none {H : Type} : Left H := { results := [], args := [] }

/-- 'viaductlaw11.OverlaySides': WHATEVER THE INPUT: true; the input reads as it did. -/
def overlaySidesSpec : ChangeSpec := { name := "overlaySides", fn := fun _ => fun
  | [d1, d2] => { results := [.lit (.bool true)], args := [d1, d2] }
  | _ => none }
def overlaySidesRow : OpenClaim := { program := "ytpaamcapopnhoaa", sum := "f1c1070625c8dea5650d70cd84d3ba5f60883db87b5475b930e949d5bdd3edd1", func := "viaduct/viaductlaw11.OverlaySides", spec := "overlaySides", inPlace := ["slices.overlaps[viaduct/overlay.Half]"], unfollowed := true, recurses := true, apart := false }
def OverlaySidesSaid : Prop := overlaySidesRow.holds Try.pinned (OpenSpec.ofChange overlaySidesSpec)

/-- ITS FALSE NEIGHBOUR: 'it returns false'. Refute it at one input. -/
def overlaySidesWrong : ChangeSpec := { name := "overlaySides", fn := fun _ => fun
  | [d1, d2] => { results := [.lit (.bool false)], args := [d1, d2] }
  | _ => none }
def OverlaySidesWrongFalsely : Prop := overlaySidesRow.holds Try.pinned (OpenSpec.ofChange overlaySidesWrong)

/-- 'viaductlaw11.OverlayKeeps': WHATEVER THE INPUT: true; the input reads as it did. -/
def overlayKeepsSpec : ChangeSpec := { name := "overlayKeeps", fn := fun _ => fun
  | [d1, d2] => { results := [.lit (.bool true)], args := [d1, d2] }
  | _ => none }
def overlayKeepsRow : OpenClaim := { program := "ytpaamcapopnhoaa", sum := "f1c1070625c8dea5650d70cd84d3ba5f60883db87b5475b930e949d5bdd3edd1", func := "viaduct/viaductlaw11.OverlayKeeps", spec := "overlayKeeps", inPlace := ["slices.overlaps[viaduct/overlay.Half]"], unfollowed := true, recurses := true, apart := false }
def OverlayKeepsSaid : Prop := overlayKeepsRow.holds Try.pinned (OpenSpec.ofChange overlayKeepsSpec)

/-- ITS FALSE NEIGHBOUR: 'it returns false'. Refute it at one input. -/
def overlayKeepsWrong : ChangeSpec := { name := "overlayKeeps", fn := fun _ => fun
  | [d1, d2] => { results := [.lit (.bool false)], args := [d1, d2] }
  | _ => none }
def OverlayKeepsWrongFalsely : Prop := overlayKeepsRow.holds Try.pinned (OpenSpec.ofChange overlayKeepsWrong)

/-- 'viaductlaw11.OverlayMemory': WHATEVER THE INPUT: true; the input reads as it did. -/
def overlayMemorySpec : ChangeSpec := { name := "overlayMemory", fn := fun _ => fun
  | [d] => { results := [.lit (.bool true)], args := [d] }
  | _ => none }
def overlayMemoryRow : OpenClaim := { program := "ytpaamcapopnhoaa", sum := "f1c1070625c8dea5650d70cd84d3ba5f60883db87b5475b930e949d5bdd3edd1", func := "viaduct/viaductlaw11.OverlayMemory", spec := "overlayMemory", inPlace := ["slices.overlaps[viaduct/overlay.Half]"], unfollowed := true, recurses := true, apart := false }
def OverlayMemorySaid : Prop := overlayMemoryRow.holds Try.pinned (OpenSpec.ofChange overlayMemorySpec)

/-- ITS FALSE NEIGHBOUR: 'it returns false'. Refute it at one input. -/
def overlayMemoryWrong : ChangeSpec := { name := "overlayMemory", fn := fun _ => fun
  | [d] => { results := [.lit (.bool false)], args := [d] }
  | _ => none }
def OverlayMemoryWrongFalsely : Prop := overlayMemoryRow.holds Try.pinned (OpenSpec.ofChange overlayMemoryWrong)

/- THE SECOND FORM. 'bulk': how many values and letters a reading holds, each counted each time it is reached (what is shared counts as often as it is met; a slice's spare places count too). A statement '..UptoSaid' is the law's where the arguments, and the package variables that the reading takes, are together of bulk at most 1048576: NARROWER than '..Said'. Prove '..Said' where nothing that the law and all that it calls make is longer than what came in: it says more and counts as full. Else prove '..UptoSaid'. A law counts once. -/
mutual
def uptoBulk {H : Type} : DataW H → Nat
  | .lit (.string bytes) => bytes.length + 1
  | .lit _ => 1
  | .nil => 1
  | .ptr d => uptoBulk d + 1
  | .slice elems spare => uptoBulkAll elems + uptoBulkAll spare + 1
  | .agg parts => uptoBulkAll parts + 1
  | .iface _ d => uptoBulk d + 1
  | .map entries => uptoBulkEntries entries + 1
  | .held _ => 1
def uptoBulkAll {H : Type} : List (DataW H) → Nat
  | [] => 0
  | d :: r => uptoBulk d + uptoBulkAll r
def uptoBulkEntries {H : Type} : List (Lit × DataW H) → Nat
  | [] => 0
  | x :: r => uptoBulkEntry x + uptoBulkEntries r
def uptoBulkEntry {H : Type} : Lit × DataW H → Nat
  | (.string bytes, d) => bytes.length + uptoBulk d + 1
  | (_, d) => uptoBulk d + 1
 end
def uptoSmall : (H : Type) → List (DataW H) → Bool := fun _ ds => decide (uptoBulkAll ds ≤ 1048576)
def OpenSpec.upto (s : _root_.Go.ChangeSpec) : _root_.Go.OpenSpec := { _root_.Go.OpenSpec.ofChange s with cond := some uptoSmall }

/-- 'viaductlaw11.OverlaySides', WHERE WHAT IT READS IS OF BULK AT MOST 1048576: true; the input reads as it did. -/
def overlaySidesUptoRow : OpenClaim := { program := "ytpaamcapopnhoaa", sum := "f1c1070625c8dea5650d70cd84d3ba5f60883db87b5475b930e949d5bdd3edd1", func := "viaduct/viaductlaw11.OverlaySides", spec := "overlaySides", inPlace := ["slices.overlaps[viaduct/overlay.Half]"], unfollowed := true, recurses := true, apart := false, narrowed := true }
def OverlaySidesUptoSaid : Prop := overlaySidesUptoRow.holds Try.pinned (OpenSpec.upto overlaySidesSpec)

/-- 'viaductlaw11.OverlayKeeps', WHERE WHAT IT READS IS OF BULK AT MOST 1048576: true; the input reads as it did. -/
def overlayKeepsUptoRow : OpenClaim := { program := "ytpaamcapopnhoaa", sum := "f1c1070625c8dea5650d70cd84d3ba5f60883db87b5475b930e949d5bdd3edd1", func := "viaduct/viaductlaw11.OverlayKeeps", spec := "overlayKeeps", inPlace := ["slices.overlaps[viaduct/overlay.Half]"], unfollowed := true, recurses := true, apart := false, narrowed := true }
def OverlayKeepsUptoSaid : Prop := overlayKeepsUptoRow.holds Try.pinned (OpenSpec.upto overlayKeepsSpec)

/-- 'viaductlaw11.OverlayMemory', WHERE WHAT IT READS IS OF BULK AT MOST 1048576: true; the input reads as it did. -/
def overlayMemoryUptoRow : OpenClaim := { program := "ytpaamcapopnhoaa", sum := "f1c1070625c8dea5650d70cd84d3ba5f60883db87b5475b930e949d5bdd3edd1", func := "viaduct/viaductlaw11.OverlayMemory", spec := "overlayMemory", inPlace := ["slices.overlaps[viaduct/overlay.Half]"], unfollowed := true, recurses := true, apart := false, narrowed := true }
def OverlayMemoryUptoSaid : Prop := overlayMemoryUptoRow.holds Try.pinned (OpenSpec.upto overlayMemorySpec)

end Rows
end Go.Proofs.Ytpaamcapopnhoaa
