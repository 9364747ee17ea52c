/- hier.Turn at a hierarchy in form. -/
import Derived.Test.YtodilocmfdeehaaGreatDoorHtA
import Derived.Test.YtodilocmfdeehaaGreatDoorHsB
import Derived.Test.YtodilocmfdeehaaGreatDoorHrV
namespace Go.Proofs.YtodilocmfdeehaaGreatDoor.Hi
open Go.RowKit Go.Extern Go.Shelf

attribute [local go_sem] Oper.semAt_some

theorem bdrew {B : Nat} {w w' : World} (h : Below B w w') (k : Nat) : Below B w (w'.drewN k) := ⟨h.os, h.tape, h.output, h.size, h.block⟩
theorem belA {W y : World} {o : Obj} (h : Below (W.alloc o).heap.size (W.alloc o) y) : Below W.heap.size W y := ((Below.refl _ W).alloc (Nat.le_refl _) o).trans (h.mono (by simp))
theorem belD {W y : World} {k : Nat} (h : Below (W.drewN k).heap.size (W.drewN k) y) : Below W.heap.size W y := ⟨h.os, h.tape, h.output, h.size, h.block⟩
theorem belAD {W y : World} {k : Nat} {o : Obj} (h : Below ((W.drewN k).alloc o).heap.size ((W.drewN k).alloc o) y) : Below W.heap.size W y := belD (belA h)
theorem own_mono {w : World} {base base' n z : Nat} {T : TypeId} {v : Value} {xs : List Value} (h : w.ownsRow base T z v n xs) (hb : base' ≤ base) : w.ownsRow base' T z v n xs := by
  obtain ⟨h1, h2⟩ := h
  refine ⟨h1, ?_⟩
  rcases h2 with h2 | ⟨g, cap, cur, e, hg, r⟩
  · exact Or.inl h2
  · exact Or.inr ⟨g, cap, cur, e, Nat.le_trans hb hg, r⟩
/-- nothing but a row's own block is written. -/
structure TouchO (w w' : World) (mo : Option Addr) : Prop where
  os : w'.os = w.os
  tape : w'.tape = w.tape
  output : w'.output = w.output
  size : w.heap.size ≤ w'.heap.size
  block : ∀ k, k < w.heap.size → (∀ a, mo = some a → k ≠ a.block) → w'.heap[k]? = w.heap[k]?
/-- a hierarchy in rows of one's own. -/
structure OwnH (w : World) (B : Nat) (u : HV) (h : Hr) : Prop where
  node : w.ownsRow B 62 1 (.slice u.no h.node.length u.nc) h.node.length (wvs h.node)
  upF : w.ownsRow B 62 1 (.slice u.uo h.upF.length u.uc) h.upF.length (wvs h.upF)
  up : w.ownsRow B 65 4 (.slice u.ul h.up.length u.ulc) h.up.length (lvs h.up)
  dnF : w.ownsRow B 62 1 (.slice u.wo h.dnF.length u.wc) h.dnF.length (wvs h.dnF)
  dn : w.ownsRow B 65 4 (.slice u.dl h.dn.length u.dlc) h.dn.length (lvs h.dn)
/-- two rows in blocks apart. -/
def Apart (x y : Option Addr) : Prop := ∀ a c, x = some a → y = some c → a.block ≠ c.block
/-- the hierarchy under way, in its box. -/
structure TB (W0 : World) (h : Hr) (m1 m2 m3 m4 m5 : Option Addr) (c1 c2 c3 c4 c5 : Nat) (b : Nat) (U D : List Lk) (W : World) : Prop where
  bel : Below W0.heap.size W0 W
  box : W.heap[b]? = some (.cells #[.slice m1 h.node.length c1, .slice m2 h.dnF.length c2, .slice m3 h.dn.length c3, .slice m4 h.upF.length c4, .slice m5 h.up.length c5] 25)
  r1 : W.ownsRow W0.heap.size 62 1 (.slice m1 h.node.length c1) h.node.length (wvs h.node)
  r2 : W.ownsRow W0.heap.size 62 1 (.slice m2 h.dnF.length c2) h.dnF.length (wvs h.dnF)
  r3 : W.ownsRow W0.heap.size 65 4 (.slice m3 h.dn.length c3) h.dn.length (lvs U)
  r4 : W.ownsRow W0.heap.size 62 1 (.slice m4 h.upF.length c4) h.upF.length (wvs h.upF)
  r5 : W.ownsRow W0.heap.size 65 4 (.slice m5 h.up.length c5) h.up.length (lvs D)
  o3 : ∀ a, m3 = some a → a.block ≠ b
  o5 : ∀ a, m5 = some a → a.block ≠ b
  a13 : Apart m1 m3
  a23 : Apart m2 m3
  a43 : Apart m4 m3
  a53 : Apart m5 m3
  a15 : Apart m1 m5
  a25 : Apart m2 m5
  a45 : Apart m4 m5
variable {W0 W W' : World} {h : Hr} {m1 m2 m3 m4 m5 : Option Addr} {c1 c2 c3 c4 c5 b : Nat} {U D U' D' : List Lk}
end Go.Proofs.YtodilocmfdeehaaGreatDoor.Hi
