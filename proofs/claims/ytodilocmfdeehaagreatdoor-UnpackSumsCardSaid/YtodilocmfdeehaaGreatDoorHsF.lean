/- hier.Turn at a hierarchy in form. -/
import Derived.Test.YtodilocmfdeehaaGreatDoorHtA
import Derived.Test.YtodilocmfdeehaaGreatDoorHsB
import Derived.Test.YtodilocmfdeehaaGreatDoorHrV
namespace Go.Proofs.YtodilocmfdeehaaGreatDoor.Hi
open Go.RowKit Go.Extern Go.Shelf

attribute [local go_sem] Oper.semAt_some

theorem boxKeep {y y' : World} {b : Nat} {o : Obj} (z : Hid (y.heap[b]? = some o)) (hy : Below y.heap.size y y') : Hid (y'.heap[b]? = some o) := (hy.block _ (some_lt z.out)).trans z.out
theorem bdrew {B : Nat} {w w' : World} (h : Below B w w') (k : Nat) : Below B w (w'.drewN k) := ⟨h.os, h.tape, h.output, h.size, h.block⟩
theorem belA {W y : World} {o : Obj} (h : Below (W.alloc o).heap.size (W.alloc o) y) : Below W.heap.size W y := ((Below.refl _ W).alloc (Nat.le_refl _) o).trans (h.mono (by simp))
theorem belD {W y : World} {k : Nat} (h : Below (W.drewN k).heap.size (W.drewN k) y) : Below W.heap.size W y := ⟨h.os, h.tape, h.output, h.size, h.block⟩
theorem belAD {W y : World} {k : Nat} {o : Obj} (h : Below ((W.drewN k).alloc o).heap.size ((W.drewN k).alloc o) y) : Below W.heap.size W y := belD (belA h)
theorem own_mono {w : World} {base base' n z : Nat} {T : TypeId} {v : Value} {xs : List Value} (h : w.ownsRow base T z v n xs) (hb : base' ≤ base) : w.ownsRow base' T z v n xs := by
  obtain ⟨h1, h2⟩ := h
  refine ⟨h1, ?_⟩
  rcases h2 with h2 | ⟨g, cap, cur, e, hg, r⟩
  · exact Or.inl h2
  · exact Or.inr ⟨g, cap, cur, e, Nat.le_trans hb hg, r⟩
theorem own_low {w : World} {B n m z mc : Nat} {T : TypeId} {mo : Option Addr} {xs : List Value} (h : w.ownsRow B T z (.slice mo n mc) m xs) : ∀ a, mo = some a → a.block < w.heap.size := by
  intro a ea
  subst ea
  obtain ⟨h1, h2⟩ := h
  rcases h2 with ⟨h2, _⟩ | ⟨g, cap, cur, e, hg, hh, r⟩
  · cases h2
  · cases e
    exact some_lt hh
theorem own_below {w w' : World} {B n z : Nat} {T : TypeId} {v : Value} {xs : List Value} (h : w.ownsRow B T z v n xs) (hb : Below w.heap.size w w') : w'.ownsRow B T z v n xs := own_keep h fun k _ _ hh => (hb.block k (some_lt hh)).trans hh
theorem five_free {w : World} {b : Nat} {T : TypeId} {a0 a1 a2 a3 a4 : Value} (h : w.heap[b]? = some (.cells #[a0, a1, a2, a3, a4] T)) : w.frozen? ⟨b, 0, none⟩ = false ∧ w.frozen? ⟨b, 1, none⟩ = false ∧ w.frozen? ⟨b, 2, none⟩ = false ∧ w.frozen? ⟨b, 3, none⟩ = false ∧ w.frozen? ⟨b, 4, none⟩ = false := by simp [World.frozen?, h]
/-- nothing but a row's own block is written. -/
structure TouchO (w w' : World) (mo : Option Addr) : Prop where
  os : w'.os = w.os
  tape : w'.tape = w.tape
  output : w'.output = w.output
  size : w.heap.size ≤ w'.heap.size
  block : ∀ k, k < w.heap.size → (∀ a, mo = some a → k ≠ a.block) → w'.heap[k]? = w.heap[k]?
theorem TouchO.below {w w' : World} {mo : Option Addr} (h : TouchO w w' mo) {B : Nat} {w0 : World} (hb : Below B w0 w) (hm : ∀ a, mo = some a → B ≤ a.block) (hB : B ≤ w.heap.size) : Below B w0 w' :=
  ⟨h.os.trans hb.os, h.tape.trans hb.tape, h.output.trans hb.output, Nat.le_trans hb.size h.size, fun k hk => (h.block k (Nat.lt_of_lt_of_le hk hB) (fun a e => by have := hm a e; omega)).trans (hb.block k hk)⟩
theorem TouchO.own {w w' : World} {mo : Option Addr} (h : TouchO w w' mo) {B n m z c : Nat} {T : TypeId} {xo : Option Addr} {xs : List Value} (ho : w.ownsRow B T z (.slice xo n c) m xs) (ha : ∀ a b, xo = some a → mo = some b → a.block ≠ b.block) : w'.ownsRow B T z (.slice xo n c) m xs :=
  own_keep ho fun k cur e hh => (h.block k (some_lt hh) (fun b eb => by
    cases xo with
    | none => simp [Value.ownBlock] at e
    | some a => simp [Value.ownBlock] at e; rw [← e]; exact ha a b rfl eb)).trans hh

/-- a hierarchy in rows of one's own. -/
structure OwnH (w : World) (B : Nat) (u : HV) (h : Hr) : Prop where
  node : w.ownsRow B 62 1 (.slice u.no h.node.length u.nc) h.node.length (wvs h.node)
  upF : w.ownsRow B 62 1 (.slice u.uo h.upF.length u.uc) h.upF.length (wvs h.upF)
  up : w.ownsRow B 65 4 (.slice u.ul h.up.length u.ulc) h.up.length (lvs h.up)
  dnF : w.ownsRow B 62 1 (.slice u.wo h.dnF.length u.wc) h.dnF.length (wvs h.dnF)
  dn : w.ownsRow B 65 4 (.slice u.dl h.dn.length u.dlc) h.dn.length (lvs h.dn)
/-- two rows in blocks apart. -/
def Apart (x y : Option Addr) : Prop := ∀ a c, x = some a → y = some c → a.block ≠ c.block
theorem Apart.symm {x y : Option Addr} (h : Apart x y) : Apart y x := fun a c e f g => h c a f e g.symm
/-- the hierarchy under way, in its box. -/
structure TB (W0 : World) (h : Hr) (m1 m2 m3 m4 m5 : Option Addr) (c1 c2 c3 c4 c5 : Nat) (b : Nat) (U D : List Lk) (W : World) : Prop where
  bel : Below W0.heap.size W0 W
  box : W.heap[b]? = some (.cells #[.slice m1 h.node.length c1, .slice m2 h.dnF.length c2, .slice m3 h.dn.length c3, .slice m4 h.upF.length c4, .slice m5 h.up.length c5] 25)
  r1 : W.ownsRow W0.heap.size 62 1 (.slice m1 h.node.length c1) h.node.length (wvs h.node)
  r2 : W.ownsRow W0.heap.size 62 1 (.slice m2 h.dnF.length c2) h.dnF.length (wvs h.dnF)
  r3 : W.ownsRow W0.heap.size 65 4 (.slice m3 h.dn.length c3) h.dn.length (lvs U)
  r4 : W.ownsRow W0.heap.size 62 1 (.slice m4 h.upF.length c4) h.upF.length (wvs h.upF)
  r5 : W.ownsRow W0.heap.size 65 4 (.slice m5 h.up.length c5) h.up.length (lvs D)
  o3 : ∀ a, m3 = some a → a.block ≠ b
  o5 : ∀ a, m5 = some a → a.block ≠ b
  a13 : Apart m1 m3
  a23 : Apart m2 m3
  a43 : Apart m4 m3
  a53 : Apart m5 m3
  a15 : Apart m1 m5
  a25 : Apart m2 m5
  a45 : Apart m4 m5
variable {W0 W W' : World} {h : Hr} {m1 m2 m3 m4 m5 : Option Addr} {c1 c2 c3 c4 c5 b : Nat} {U D U' D' : List Lk}
theorem TB.three (t : TB W0 h m1 m2 m3 m4 m5 c1 c2 c3 c4 c5 b U D W) (ht : TouchO W W' m3) (ho : W'.ownsRow W0.heap.size 65 4 (.slice m3 h.dn.length c3) h.dn.length (lvs U')) : TB W0 h m1 m2 m3 m4 m5 c1 c2 c3 c4 c5 b U' D W' :=
  ⟨ht.below t.bel (own_high t.r3) t.bel.size, (ht.block b (some_lt t.box) (fun a e => (t.o3 a e).symm)).trans t.box, ht.own t.r1 t.a13, ht.own t.r2 t.a23, ho, ht.own t.r4 t.a43, ht.own t.r5 t.a53, t.o3, t.o5, t.a13, t.a23, t.a43, t.a53, t.a15, t.a25, t.a45⟩
theorem TB.five (t : TB W0 h m1 m2 m3 m4 m5 c1 c2 c3 c4 c5 b U D W) (ht : TouchO W W' m5) (ho : W'.ownsRow W0.heap.size 65 4 (.slice m5 h.up.length c5) h.up.length (lvs D')) : TB W0 h m1 m2 m3 m4 m5 c1 c2 c3 c4 c5 b U D' W' :=
  ⟨ht.below t.bel (own_high t.r5) t.bel.size, (ht.block b (some_lt t.box) (fun a e => (t.o5 a e).symm)).trans t.box, ht.own t.r1 t.a15, ht.own t.r2 t.a25, ht.own t.r3 t.a53.symm, ht.own t.r4 t.a45, ho, t.o3, t.o5, t.a13, t.a23, t.a43, t.a53, t.a15, t.a25, t.a45⟩
/-- rows that were made one behind the other, the box among them. -/
theorem TB.made {y5 WE : World} (hb5 : Below W0.heap.size W0 WE) (hbox : WE.heap[b]? = some (.cells #[.slice m1 h.node.length c1, .slice m2 h.dnF.length c2, .slice m3 h.dn.length c3, .slice m4 h.upF.length c4, .slice m5 h.up.length c5] 25)) (hfar : ∀ k, k < y5.heap.size → k ≠ b → WE.heap[k]? = y5.heap[k]?)
    (x1 : y5.ownsRow W0.heap.size 62 1 (.slice m1 h.node.length c1) h.node.length (wvs h.node)) (x2 : y5.ownsRow W0.heap.size 62 1 (.slice m2 h.dnF.length c2) h.dnF.length (wvs h.dnF)) (x3 : y5.ownsRow W0.heap.size 65 4 (.slice m3 h.dn.length c3) h.dn.length (lvs h.dn)) (x4 : y5.ownsRow W0.heap.size 62 1 (.slice m4 h.upF.length c4) h.upF.length (wvs h.upF)) (x5 : y5.ownsRow W0.heap.size 65 4 (.slice m5 h.up.length c5) h.up.length (lvs h.up))
    (n1 n2 n3 n4 : Nat) (l1 : ∀ a, m1 = some a → a.block < n1) (l2 : ∀ a, m2 = some a → n1 ≤ a.block ∧ a.block < n2) (l3 : ∀ a, m3 = some a → n2 ≤ a.block ∧ a.block < n3) (l4 : ∀ a, m4 = some a → n3 ≤ a.block ∧ a.block < n4) (l5 : ∀ a, m5 = some a → n4 ≤ a.block) (s1 : n1 ≤ n2) (s2 : n2 ≤ n3) (s3 : n3 ≤ n4)
    (p1 : ∀ a, m1 = some a → a.block ≠ b) (p2 : ∀ a, m2 = some a → a.block ≠ b) (p3 : ∀ a, m3 = some a → a.block ≠ b) (p4 : ∀ a, m4 = some a → a.block ≠ b) (p5 : ∀ a, m5 = some a → a.block ≠ b) : TB W0 h m1 m2 m3 m4 m5 c1 c2 c3 c4 c5 b h.dn h.up WE := by
  have keep : ∀ {T : TypeId} {z n m c : Nat} {xo : Option Addr} {xs : List Value}, y5.ownsRow W0.heap.size T z (.slice xo n c) m xs → (∀ a, xo = some a → a.block ≠ b) → WE.ownsRow W0.heap.size T z (.slice xo n c) m xs := fun {T z n m c xo xs} ho hp => own_keep ho fun k cur e hh => (hfar k (some_lt hh) (by
    cases xo with
    | none => simp [Value.ownBlock] at e
    | some a => simp [Value.ownBlock] at e; rw [← e]; exact hp a rfl)).trans hh
  refine ⟨hb5, hbox, keep x1 p1, keep x2 p2, keep x3 p3, keep x4 p4, keep x5 p5, p3, p5, ?_, ?_, ?_, ?_, ?_, ?_, ?_⟩
  · intro a c e f; have := l1 a e; have := l3 c f; omega
  · intro a c e f; have := l2 a e; have := l3 c f; omega
  · intro a c e f; have := l4 a e; have := l3 c f; omega
  · intro a c e f; have := l5 a e; have := l3 c f; omega
  · intro a c e f; have := l1 a e; have := l5 c f; omega
  · intro a c e f; have := l2 a e; have := l5 c f; omega
  · intro a c e f; have := l4 a e; have := l5 c f; omega

theorem bb {a c d : World} (x : Below a.heap.size a c) (y : Below c.heap.size c d) : Below a.heap.size a d := x.trans (y.mono x.size)
theorem turn_end {w w8 : World} {z : Nat} (hz : w.heap.size = z) (hs : z + 1 < W0.heap.size) (hb : Below w.heap.size w w8) (t : TB W0 h m1 m2 m3 m4 m5 c1 c2 c3 c4 c5 b (h.dn.map (turnL h.up.length h.dn.length)) (h.up.map (turnL h.up.length h.dn.length)) w8) :
    ∃ u, Ending.returned (.tuple #[.agg #[.slice m1 h.node.length c1, .slice m2 h.dnF.length c2, .slice m3 h.dn.length c3, .slice m4 h.upF.length c4, .slice m5 h.up.length c5], .nilIface]) = .returned (.tuple #[hvl u (turnH h), .nilIface]) ∧ OwnH (((((w8.setCell ⟨z + 1, 0, none⟩ (.slice m1 h.node.length c1)).setCell ⟨z + 1, 1, none⟩ (.slice m2 h.dnF.length c2)).setCell ⟨z + 1, 2, none⟩ (.slice m3 h.dn.length c3)).setCell ⟨z + 1, 3, none⟩ (.slice m4 h.upF.length c4)).setCell ⟨z + 1, 4, none⟩ (.slice m5 h.up.length c5)) w.heap.size u (turnH h) ∧ Below w.heap.size w (((((w8.setCell ⟨z + 1, 0, none⟩ (.slice m1 h.node.length c1)).setCell ⟨z + 1, 1, none⟩ (.slice m2 h.dnF.length c2)).setCell ⟨z + 1, 2, none⟩ (.slice m3 h.dn.length c3)).setCell ⟨z + 1, 3, none⟩ (.slice m4 h.upF.length c4)).setCell ⟨z + 1, 4, none⟩ (.slice m5 h.up.length c5)) := by
  have hbb := ((((hb.setCell (p := ⟨z + 1, 0, none⟩) (by show w.heap.size ≤ z + 1; omega) (.slice m1 h.node.length c1)).setCell (p := ⟨z + 1, 1, none⟩) (by show w.heap.size ≤ z + 1; omega) (.slice m2 h.dnF.length c2)).setCell (p := ⟨z + 1, 2, none⟩) (by show w.heap.size ≤ z + 1; omega) (.slice m3 h.dn.length c3)).setCell (p := ⟨z + 1, 3, none⟩) (by show w.heap.size ≤ z + 1; omega) (.slice m4 h.upF.length c4)).setCell (p := ⟨z + 1, 4, none⟩) (by show w.heap.size ≤ z + 1; omega) (.slice m5 h.up.length c5)
  obtain ⟨hf1, hf2⟩ := five_far w8 (z + 1) (.slice m1 h.node.length c1) (.slice m2 h.dnF.length c2) (.slice m3 h.dn.length c3) (.slice m4 h.upF.length c4) (.slice m5 h.up.length c5)
  generalize ((((w8.setCell ⟨z + 1, 0, none⟩ (.slice m1 h.node.length c1)).setCell ⟨z + 1, 1, none⟩ (.slice m2 h.dnF.length c2)).setCell ⟨z + 1, 2, none⟩ (.slice m3 h.dn.length c3)).setCell ⟨z + 1, 3, none⟩ (.slice m4 h.upF.length c4)).setCell ⟨z + 1, 4, none⟩ (.slice m5 h.up.length c5) = WE at hbb hf1 hf2 ⊢
  have keep : ∀ {T : TypeId} {y n m c : Nat} {xo : Option Addr} {xs : List Value}, w8.ownsRow W0.heap.size T y (.slice xo n c) m xs → WE.ownsRow w.heap.size T y (.slice xo n c) m xs := fun {T y n m c xo xs} ho => own_mono (own_keep ho fun k cur e hh => (hf1 k (by
    cases xo with
    | none => simp [Value.ownBlock] at e
    | some a => simp [Value.ownBlock] at e; have := own_high ho a rfl; omega)).trans hh) (by omega)
  refine ⟨⟨m1, m2, m3, m4, m5, c1, c2, c3, c4, c5⟩, by simp [hvl, turnH], ⟨keep t.r1, keep t.r2, ?_, keep t.r4, ?_⟩, hbb⟩
  · have g := keep t.r3
    simpa [turnH] using g
  · have g := keep t.r5
    simpa [turnH] using g

end Go.Proofs.YtodilocmfdeehaaGreatDoor.Hi
