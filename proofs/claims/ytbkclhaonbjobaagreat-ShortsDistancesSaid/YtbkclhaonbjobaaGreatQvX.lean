/- slices.Grow of no list, and slices.Concat of two lists of arcs: a new row that holds both, one behind the other. viaductref04.Reverse and DocReverse: the document's answer, arc by arc. viaductref04.less; a list's two pieces; where an arc is put. viaductref04.Put: an arc put into a normal list, in new memory. viaductref04.Of: the document's normal list, arc by arc. viaductref04.DocReverse: the document's answer: the graph turned about, or the error. viaductref04.DocOf: the document's answer: the normal graph, or the error. viaductref11.DocNew at a right graph. -/
import Derived.Test.YtbkclhaonbjobaaGreatCheck
import Derived.OwnWalk
import Derived.Lib.AppendZeros
import Derived.Laws.AppendOwnNone
import Derived.Test.YtbkclhaonbjobaaGreatQnX
import Derived.Test.YtbkclhaonbjobaaGreatDocCheck
import Derived.Deep.RegionHeld3
import Derived.BigRegion
import Derived.Deep.RegionHeld
import Derived.Test.YtbkclhaonbjobaaGreatQfX
namespace Go.Proofs.YtbkclhaonbjobaaGreat
open Go.RowKit Go.Extern Go.Sort

attribute [local go_sem] Oper.semAt_some

/-- the cells of arcs. -/
def flatC (l : List (Int × Int × Int)) : List Value := l.flatMap fun a => [.int .i64 a.1, .int .i64 a.2.1, .int .i64 a.2.2]
end Go.Proofs.YtbkclhaonbjobaaGreat

namespace Go.Proofs.YtbkclhaonbjobaaGreat
open Go.RowKit Go.Extern Go.Sort Go.Shelf

attribute [local go_sem] Oper.semAt_some

/-- a list in new memory. -/
def NewA (B : Nat) (v : Value) : Prop := ∀ b off n c, v = .slice (some ⟨b, off, none⟩) n c → B ≤ b
/-- what holds at each round. -/
structure RRI (w : World) (N : Int) (ao : Option Addr) (cap : Nat) (xs : List (Int × Int × Int)) (l : List (Int × Int × Int)) (sv : Value) (wr : World) : Prop where
  row : wr.ownsRow (w.heap.size + 3) 84 3 sv l.length (flatA l)
  box : wr.heap[w.heap.size]? = some (.cells #[.int .i64 N, .slice ao xs.length cap] 24)
  res : wr.heap[w.heap.size + 1]? = some (.cells #[.int .i64 0, .slice none 0 0] 24)
  c : wr.heap[w.heap.size + 2]? = some (.cells #[.int .i64 N, sv] 24)
  below : Below w.heap.size w wr
end Go.Proofs.YtbkclhaonbjobaaGreat

namespace Go.Proofs.YtbkclhaonbjobaaGreat
open Go.RowKit Go.Extern Go.Sort Go.Shelf

attribute [local go_sem] Oper.semAt_some

/-- a slice that can be cut. -/
def Cut (lo : Option Addr) (n lc : Nat) : Prop := (lo = none ∧ n = 0 ∧ lc = 0) ∨ ∃ b off, lo = some ⟨b, off, none⟩ ∧ 0 < n ∧ n ≤ lc
end Go.Proofs.YtbkclhaonbjobaaGreat

namespace Go.Proofs.YtbkclhaonbjobaaGreat
open Go.RowKit Go.Extern Go.Sort Go.Shelf

attribute [local go_sem] Oper.semAt_some

end Go.Proofs.YtbkclhaonbjobaaGreat

namespace Go.Proofs.YtbkclhaonbjobaaGreat
open Go.RowKit Go.Extern Go.Sort Go.Shelf

attribute [local go_sem] Oper.semAt_some

/-- what holds at each round. -/
structure ROI (w : World) (N : Int) (ao : Option Addr) (cap : Nat) (xs : List (Int × Int × Int)) (l : List (Int × Int × Int)) (so : Option Addr) (sc : Nat) (wr : World) : Prop where
  row : wr.ownsRow (w.heap.size + 3) 84 3 (.slice so l.length sc) l.length (flatC l)
  cut : Cut so l.length sc
  box : wr.heap[w.heap.size]? = some (.cells #[.int .i64 N, .slice ao xs.length cap] 24)
  res : wr.heap[w.heap.size + 1]? = some (.cells #[.int .i64 0, .slice none 0 0] 24)
  c : wr.heap[w.heap.size + 2]? = some (.cells #[.int .i64 N, .slice so l.length sc] 24)
  below : RowKit.Below w.heap.size w wr
end Go.Proofs.YtbkclhaonbjobaaGreat

namespace Go.Proofs.YtbkclhaonbjobaaGreat
open Go.RowKit Go.Extern Go.Sort Go.Shelf

attribute [local go_sem] Oper.semAt_some

end Go.Proofs.YtbkclhaonbjobaaGreat

namespace Go.Proofs.YtbkclhaonbjobaaGreat
open Go.RowKit Go.Extern Go.Sort Go.Shelf

attribute [local go_sem] Oper.semAt_some

end Go.Proofs.YtbkclhaonbjobaaGreat

namespace Go.Proofs.YtbkclhaonbjobaaGreat
open Go.RowKit Go.Extern Go.Sort

attribute [local go_sem] Oper.semAt_some

end Go.Proofs.YtbkclhaonbjobaaGreat
