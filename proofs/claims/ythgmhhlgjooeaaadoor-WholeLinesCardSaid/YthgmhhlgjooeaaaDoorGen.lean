/- Code and Places at the errors that are met here: a number or none at the end. -/
import Derived.Test.YthgmhhlgjooeaaaDoorTextW
import Derived.Test.YthgmhhlgjooeaaaDoorTold
namespace Go.Proofs.YthgmhhlgjooeaaaDoor.F1
open Go.RowKit Go.Extern

def Tail3 (tv : Value) : Prop := tv = .nilIface ∨ ∃ n, tv = .iface 27 (.int .i64 n)
def strip (v : Value) : Value := v
theorem strip_or {tv : Value} (h : Tail3 tv) : strip tv = .nilIface ∨ ∃ n, strip tv = .iface 27 (.int .i64 n) := h
theorem code_gen (ps : List (Int × Int)) {tv : Value} (htv : Tail3 tv) (v : Value) (w : World) (hv : IsErr w tv ps v) (hg : HasType w) :
    Calls Tryd.prog 13 #[v] w fun e w' => e = .returned (.int .i64 (codeOf (cutTail (strip tv) ps 64))) ∧ Below w.heap.size w w' := code_any ps htv v w hv hg
theorem places_gen {tv : Value} (htv : Tail3 tv) (ps : List (Int × Int)) (v : Value) (w : World) (hv : IsErr w tv ps v) (hg : HasType w) :
    Calls Tryd.prog 8 #[v] w fun e w' => ∃ pl, e = .returned pl ∧ w'.ownsRow w.heap.size 37 2 pl (ps.take 64).length (flat (ps.take 64)) ∧ Below w.heap.size w w' := places_calls htv ps v w hv hg
end Go.Proofs.YthgmhhlgjooeaaaDoor.F1
