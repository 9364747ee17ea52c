/- csr's small methods: how many nodes, is it one, is an arc right: whatever the arrays. -/
import Derived.Test.YtpaamcapopnhoaaInts
import Derived.Deep.RegionWith
import Derived.Deep.RegionHeld3
namespace Go.Proofs.Ytpaamcapopnhoaa
open Go.RowKit Go.Extern

attribute [local go_sem] Oper.semAt_some

/-- the box of a Csr in memory. -/
theorem box3 {w : World} {b : Nat} {c0 c1 c2 : Value} {T : TypeId} (h : w.heap[b]? = some (.cells #[c0, c1, c2] T)) :
    w.cell? ⟨b, 0, none⟩ = some c0 ∧ w.cell? ⟨b, 1, none⟩ = some c1 ∧ w.cell? ⟨b, 2, none⟩ = some c2 := by
  simp [World.cell?, h]

section
variable (fo to wo : Option Addr) (n fc tl tc wl wc : Nat)

end

theorem HasInts.cells {wx : World} {ao : Option Addr} {l cap : Nat} {xs : List Int} (h : HasInts wx (.slice ao l cap) xs) (h0 : 0 < l) : ∃ b off, ao = some ⟨b, off, none⟩ ∧ b < wx.heap.size ∧ ∀ (k : Nat) (a : Int), xs[k]? = some a → wx.cell? ⟨b, off + k, none⟩ = some (.int .i64 a) := by
  obtain ⟨ao', cap', e, hc⟩ := h
  injection e with e1 e2 e3
  subst e1
  obtain ⟨a, ha⟩ : ∃ a, xs[0]? = some a := ⟨xs[0], List.getElem?_eq_getElem (by omega)⟩
  obtain ⟨b, off, rfl, hl, _⟩ := hc 0 a ha
  refine ⟨b, off, rfl, hl, fun k a hk => ?_⟩
  obtain ⟨b', off', e', _, h1⟩ := hc k a hk
  injection e' with e'
  injection e' with i1 i2
  subst i1 i2
  exact h1

end Go.Proofs.Ytpaamcapopnhoaa
