/- fault.Code over chains that end in a number or in nothing: the number, if it is among the first 64 links; nothing that was there turns. -/
import Derived.Test.YthgmhhlgjooeaaaDoorErrF
import Derived.Test.YthgmhhlgjooeaaaDoorErrH
namespace Go.Proofs.YthgmhhlgjooeaaaDoor.F1
open Go.RowKit Go.Extern

/-- the variable errors.errorType holds the type of errors. -/
def HasType (w : World) : Prop := w.cell? ⟨0, 0, none⟩ = some (.iface 112 (.agg #[.pointer (some ⟨5, 24, none⟩)]))
theorem HasType.keep {B : Nat} {w w' : World} (h : HasType w) (hb : Below B w w') (hB : 0 < B) : HasType w' := (hb.cell (p := ⟨0, 0, none⟩) hB).trans h
theorem HasType.pos {w : World} (h : HasType w) : 0 < w.heap.size := as_facts w h
theorem heap_new (w : World) (o : Obj) : (w.alloc o).heap[w.heap.size]? = some o := by show (w.heap.push _)[w.heap.size]? = _; simp

set_option maxHeartbeats 1000000 in
theorem code_num (ps : List (Int × Int)) (n : Int) (v : Value) (w : World) (hv : IsErr w (.iface 27 (.int .i64 n)) ps v) (hp : ps.length < 64) (hg : HasType w) :
    Calls Tryd.prog 13 #[v] w fun e w' => e = .returned (.int .i64 n) ∧ Below w.heap.size w w' := by
  have hb0 : Below w.heap.size w (w.alloc (.cells #[.int .i64 0] 27)) := (Below.refl _ _).alloc (Nat.le_refl _) _
  have HV : Hid (IsErr (w.alloc (.cells #[.int .i64 0] 27)) (.iface 27 (.int .i64 n)) ps v) := hv.keep (Below.keeps hb0)
  have HG : Hid (HasType (w.alloc (.cells #[.int .i64 0] 27))) := hg.keep hb0 hg.pos
  have hg0 : 0 < w.heap.size := hg.pos
  have HN : Hid ((w.alloc (.cells #[.int .i64 0] 27)).heap[w.heap.size]? = some (.cells #[.int .i64 0] 27)) := heap_new _ _
  clear hv hg
  go_enter Tryd.func13, Tryd.ntmps13
  go_wp2_with fail
  refine (counted_calls (Or.inr ⟨n, rfl⟩) 64 ps v _ (by omega) HV.out).mono ?_
  rintro e w1 ⟨v1, rfl, h1, hb1⟩
  have e1 : cutTail (.iface 27 (.int .i64 n)) ps 64 = .iface 27 (.int .i64 n) := by simp [cutTail, hp]
  rw [e1] at h1
  have H1 : Hid (IsErr w1 (.iface 27 (.int .i64 n)) (ps.take 64) v1) := h1
  have HG1 : Hid (HasType w1) := HG.out.keep hb1 (by simp)
  have HN1 : Hid (w1.heap[w.heap.size]? = some (.cells #[.int .i64 0] 27)) := (hb1.block w.heap.size (by simp)).trans HN.out
  clear h1
  go_wp2_with fail
  refine (as_num (ps.take 64) n v1 w.heap.size _ w1 H1.out HG1.out HN1.out).mono ?_
  rintro e w2 ⟨rfl, h2, ht⟩
  have hc := (cell_one h2).1
  have hB : Below w.heap.size w w2 := (hb0.trans (hb1.mono (by simp))).trans (ht.below (Nat.le_refl _) (lt_of_get HN1.out))
  clear h2
  go_wp2
  go_ret
  exact ⟨rfl, hB⟩
end Go.Proofs.YthgmhhlgjooeaaaDoor.F1
