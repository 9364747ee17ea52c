/- words: viaductref10.Words (a copy), viaductref10.SameWords of two lists that are one, wire.PutWords. -/
import Derived.Test.YtemdocnhdnhliacWrF
import Derived.BigQuiet
import Derived.Deep.RegionWith
import Derived.Deep.QuietTactic
import Derived.Deep.Upon
namespace Go.Proofs.Ytemdocnhdnhliac
open Go.RowKit Go.Extern Cr

attribute [local go_sem] Oper.semAt_some

theorem hasW_new1 (w : World) (a : Nat) : HasW (w.alloc (.cells #[.int .u32 (a : Int)] 40)) (.slice (some ⟨w.heap.size, 0, none⟩) [a].length 1) [a] := hasW_new w [a] 1 (0, 0)
theorem take_more {l : List Nat} {i x : Nat} (h : l[i]? = some x) : l.take (i + 1) = l.take i ++ [x] := by
  rw [List.take_add_one, h]; rfl

end Go.Proofs.Ytemdocnhdnhliac
