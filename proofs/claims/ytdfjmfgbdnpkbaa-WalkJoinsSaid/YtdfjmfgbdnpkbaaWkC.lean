/- walk.Back and viaductref09.Back: the list turned about, in memory of its own. -/
import Derived.Test.YtdfjmfgbdnpkbaaWkB
namespace Go.Proofs.Ytdfjmfgbdnpkbaa
open Go.RowKit Go.Extern

attribute [local go_sem] Oper.semAt_some

/-- what is answered: a list in memory of its own. -/
def LA (w : World) (ys : List Int) (e : Ending) (w' : World) : Prop := ∃ so sc, e = .returned (.slice so ys.length sc) ∧ w'.ownsRow w.heap.size 3 1 (.slice so ys.length sc) ys.length (iv ys) ∧ Below w.heap.size w w'
theorem reverse_any (B sc : Nat) (so : Option Addr) (zs : List Int) (w : World) (h : w.ownsRow B 3 1 (.slice so zs.length sc) zs.length (iv zs)) (hm : zs.length ≤ 9223372036854775807) (hB : w.heap.size ≤ w.heap.size) :
    Calls Try.prog 31 #[.slice so zs.length sc] w fun e w' => e = .returned (.tuple #[]) ∧ w'.ownsRow B 3 1 (.slice so zs.length sc) zs.length (iv zs.reverse) ∧ w.grownBy w' (Value.slice so zs.length sc).ownBlock := by
  rcases h.2 with ⟨e, h0⟩ | ⟨g, cap, cur, e, _⟩
  · injection e with e1 e2 e3
    subst e1
    subst e3
    have hz : zs = [] := List.eq_nil_of_length_eq_zero h0
    subst hz
    refine (Any.slices_Reverse_int_empty Try.rv none 0 w).mono ?_
    rintro e w' ⟨he, rfl⟩
    exact ⟨he, World.ownsRow_nil _ _ _ _, ⟨rfl, rfl, rfl, Nat.le_refl _, fun _ _ _ => rfl⟩⟩
  · injection e with e1 e2 e3
    subst e1
    subst e3
    exact reverse_own B g sc zs w h hm

set_option maxRecDepth 100000 in
set_option maxHeartbeats 1000000 in
theorem back_calls (lo : Option Addr) (lc : Nat) (xs : List Int) (w : World) (hl : HasInts w (.slice lo xs.length lc) xs) (hs : ∀ a, lo = some a → a.spot = none) (hm : xs.length * 8 ≤ 140737488351232) :
    Calls Try.prog 16 #[.slice lo xs.length lc] w (LA w xs.reverse) := by
  have HC : Hid (type_of% (clone_any lo lc xs w hl hs hm)) := clone_any lo lc xs w hl hs hm
  clear hl hs
  go_enter Try.func16, Try.ntmps16
  go_wp2_with fail
  refine HC.out.mono ?_
  rintro e w1 ⟨so, sc, rfl, ho, h⟩
  have H1 : Hid (w1.ownsRow w.heap.size 3 1 (.slice so xs.length sc) xs.length (iv xs) ∧ Below w.heap.size w w1) := ⟨ho, h⟩
  clear ho h
  go_wp2_with fail
  refine (reverse_any w.heap.size sc so xs w1 H1.out.1 (by omega) (Nat.le_refl _)).mono ?_
  rintro e w2 ⟨rfl, ho, hg⟩
  have H2 : Hid (w2.ownsRow w.heap.size 3 1 (.slice so xs.length sc) xs.length (iv xs.reverse) ∧ Below w.heap.size w w2) := ⟨ho, below_g H1.out.2 hg (fun k e => (H1.out.1.lt k e.symm).1)⟩
  clear ho hg
  go_wp2
  go_ret
  refine ⟨so, sc, congrArg (fun n : Nat => Ending.returned (.slice so n sc)) List.length_reverse.symm, ?_, H2.out.2⟩
  rw [List.length_reverse]
  exact H2.out.1

end Go.Proofs.Ytdfjmfgbdnpkbaa
