/- Rows of places in memory, and viaductref01's Bad. -/
import Derived.Test.YtbkclhaonbjobaaGreatErrP
import Derived.Test.YtbkclhaonbjobaaGreatCheck
import Derived.Deep.RegionWith
import Derived.Deep.RegionHeld
namespace Go.Proofs.YtbkclhaonbjobaaGreat
open Go.RowKit Go.Extern

attribute [local go_sem] Oper.semAt_some

/-- a slice whose places lie in memory. -/
def HasPlaces (w : World) (lv : Value) (ps : List (Int × Int)) : Prop :=
  ∃ ao cap, lv = .slice ao ps.length cap ∧ ∀ j p, ps[j]? = some p → ∃ b off, ao = some ⟨b, off, none⟩ ∧ b < w.heap.size ∧
    w.cell? ⟨b, off + j * 2, none⟩ = some (.int .i64 p.1) ∧ w.cell? ⟨b, off + j * 2 + 1, none⟩ = some (.int .i64 p.2)
theorem bad_calls (C : Int) (mo : Option Addr) (l cap : Nat) (w : World) :
    Calls Tryz.prog 25 #[.agg #[.int .i64 C, .slice mo l cap]] w fun e w' => e = .returned (.bool (C != 0 || decide (0 < l))) ∧ Below w.heap.size w w' := by
  have HB : Hid (Below w.heap.size w (w.alloc (.cells #[.int .i64 C, .slice mo l cap] 76))) := (Below.refl _ w).alloc (Nat.le_refl _) _
  by_cases hC : C = 0
  · subst hC
    by_cases hl : 0 < l
    · have h1 : decide (0 < l) = true := decide_eq_true hl
      have h2 : decide ((0 : Int) < (l : Int)) = true := decide_eq_true (by omega)
      rw [h1]
      go_enter Tryz.func25, Tryz.ntmps25
      go_wp2
      go_ret
      exact ⟨rfl, HB.out⟩
    · obtain rfl : l = 0 := by omega
      go_enter Tryz.func25, Tryz.ntmps25
      go_wp2
      go_ret
      exact ⟨rfl, HB.out⟩
  · have h1 : (C != 0) = true := by simpa using hC
    rw [h1, Bool.true_or]
    go_enter Tryz.func25, Tryz.ntmps25
    go_wp2
    go_ret
    exact ⟨rfl, HB.out⟩

end Go.Proofs.YtbkclhaonbjobaaGreat
