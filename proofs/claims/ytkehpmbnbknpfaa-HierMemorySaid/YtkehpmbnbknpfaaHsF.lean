/- hier.Turn at a hierarchy in form. -/
import Derived.Test.YtkehpmbnbknpfaaHtA
import Derived.Test.YtkehpmbnbknpfaaHsB
import Derived.Test.YtkehpmbnbknpfaaHrV
namespace Go.Proofs.Ytkehpmbnbknpfaa.Hi
open Go.RowKit Go.Extern Go.Shelf

attribute [local go_sem] Oper.semAt_some

theorem boxKeep {y y' : World} {b : Nat} {o : Obj} (z : Hid (y.heap[b]? = some o)) (hy : Below y.heap.size y y') : Hid (y'.heap[b]? = some o) := (hy.block _ (some_lt z.out)).trans z.out
theorem bdrew {B : Nat} {w w' : World} (h : Below B w w') (k : Nat) : Below B w (w'.drewN k) := ⟨h.os, h.tape, h.output, h.size, h.block⟩
theorem belA {W y : World} {o : Obj} (h : Below (W.alloc o).heap.size (W.alloc o) y) : Below W.heap.size W y := ((Below.refl _ W).alloc (Nat.le_refl _) o).trans (h.mono (by simp))
theorem belD {W y : World} {k : Nat} (h : Below (W.drewN k).heap.size (W.drewN k) y) : Below W.heap.size W y := ⟨h.os, h.tape, h.output, h.size, h.block⟩
theorem belAD {W y : World} {k : Nat} {o : Obj} (h : Below ((W.drewN k).alloc o).heap.size ((W.drewN k).alloc o) y) : Below W.heap.size W y := belD (belA h)
theorem own_mono {w : World} {base base' n z : Nat} {T : TypeId} {v : Value} {xs : List Value} (h : w.ownsRow base T z v n xs) (hb : base' ≤ base) : w.ownsRow base' T z v n xs := by
  obtain ⟨h1, h2⟩ := h
  refine ⟨h1, ?_⟩
  rcases h2 with h2 | ⟨g, cap, cur, e, hg, r⟩
  · exact Or.inl h2
  · exact Or.inr ⟨g, cap, cur, e, Nat.le_trans hb hg, r⟩
theorem own_low {w : World} {B n m z mc : Nat} {T : TypeId} {mo : Option Addr} {xs : List Value} (h : w.ownsRow B T z (.slice mo n mc) m xs) : ∀ a, mo = some a → a.block < w.heap.size := by
  intro a ea
  subst ea
  obtain ⟨h1, h2⟩ := h
  rcases h2 with ⟨h2, _⟩ | ⟨g, cap, cur, e, hg, hh, r⟩
  · cases h2
  · cases e
    exact some_lt hh
theorem own_below {w w' : World} {B n z : Nat} {T : TypeId} {v : Value} {xs : List Value} (h : w.ownsRow B T z v n xs) (hb : Below w.heap.size w w') : w'.ownsRow B T z v n xs := own_keep h fun k _ _ hh => (hb.block k (some_lt hh)).trans hh
theorem five_free {w : World} {b : Nat} {T : TypeId} {a0 a1 a2 a3 a4 : Value} (h : w.heap[b]? = some (.cells #[a0, a1, a2, a3, a4] T)) : w.frozen? ⟨b, 0, none⟩ = false ∧ w.frozen? ⟨b, 1, none⟩ = false ∧ w.frozen? ⟨b, 2, none⟩ = false ∧ w.frozen? ⟨b, 3, none⟩ = false ∧ w.frozen? ⟨b, 4, none⟩ = false := by simp [World.frozen?, h]
/-- nothing but a row's own block is written. -/
structure TouchO (w w' : World) (mo : Option Addr) : Prop where
  os : w'.os = w.os
  tape : w'.tape = w.tape
  output : w'.output = w.output
  size : w.heap.size ≤ w'.heap.size
  block : ∀ k, k < w.heap.size → (∀ a, mo = some a → k ≠ a.block) → w'.heap[k]? = w.heap[k]?
theorem TouchO.below {w w' : World} {mo : Option Addr} (h : TouchO w w' mo) {B : Nat} {w0 : World} (hb : Below B w0 w) (hm : ∀ a, mo = some a → B ≤ a.block) (hB : B ≤ w.heap.size) : Below B w0 w' :=
  ⟨h.os.trans hb.os, h.tape.trans hb.tape, h.output.trans hb.output, Nat.le_trans hb.size h.size, fun k hk => (h.block k (Nat.lt_of_lt_of_le hk hB) (fun a e => by have := hm a e; omega)).trans (hb.block k hk)⟩
theorem TouchO.own {w w' : World} {mo : Option Addr} (h : TouchO w w' mo) {B n m z c : Nat} {T : TypeId} {xo : Option Addr} {xs : List Value} (ho : w.ownsRow B T z (.slice xo n c) m xs) (ha : ∀ a b, xo = some a → mo = some b → a.block ≠ b.block) : w'.ownsRow B T z (.slice xo n c) m xs :=
  own_keep ho fun k cur e hh => (h.block k (some_lt hh) (fun b eb => by
    cases xo with
    | none => simp [Value.ownBlock] at e
    | some a => simp [Value.ownBlock] at e; rw [← e]; exact ha a b rfl eb)).trans hh

set_option maxRecDepth 100000 in
set_option maxHeartbeats 4000000 in
theorem turnC_nil (p q : Nat) (cap : Nat) (w : World) : Calls Try.prog 25 #[.slice none 0 cap, .int .u32 (p : Int), .int .u32 (q : Int)] w fun e w' => e = .returned (.tuple #[]) ∧ w' = w := by
  go_enter Try.func25, Try.ntmps25
  go_wp2_with fail
  go_loopw [10] (fun iv wr => iv = .int .i64 0 ∧ wr = w) (fun iv _ => 0)
  case atStart => exact ⟨rfl, rfl⟩
  case round =>
    obtain ⟨rfl, rfl⟩ := hrel
    go_wp2
    exact bodyPost_end (v := .tuple #[]) (by simp [results, Try.results25]) rfl ⟨rfl, rfl⟩
theorem turnC_any (mo : Option Addr) (cap p q B : Nat) (L : List Lk) (w : World) (ho : w.ownsRow B 47 4 (.slice mo L.length cap) L.length (lvs L)) (hok : ∀ l ∈ L, l.ok) (hp : ∀ l ∈ L, l.plain = false → p ≤ l.lf ∧ q + l.rt < 4294967296) (hn : L.length ≤ 1048576) :
    Calls Try.prog 25 #[.slice mo L.length cap, .int .u32 (p : Int), .int .u32 (q : Int)] w fun e w' => e = .returned (.tuple #[]) ∧ w'.ownsRow B 47 4 (.slice mo L.length cap) L.length (lvs (L.map (turnL p q))) ∧ TouchO w w' mo := by
  rcases ho.2 with ⟨e, e2⟩ | ⟨g, cap', cur, e, r⟩
  · obtain ⟨rfl, h0, rfl⟩ : mo = none ∧ L.length = 0 ∧ cap = 0 := by
      simpa using e
    obtain rfl : L = [] := List.eq_nil_of_length_eq_zero h0
    refine (turnC_nil p q 0 w).mono ?_
    rintro e w' ⟨rfl, rfl⟩
    exact ⟨rfl, by simpa using ho, ⟨rfl, rfl, rfl, Nat.le_refl _, fun _ _ _ => rfl⟩⟩
  · obtain rfl : mo = some ⟨g, 0, none⟩ := by simp at e; exact e.1
    refine (turnC_calls g cap p q B L w ho hok hp hn).mono ?_
    rintro e' w' ⟨rfl, h1, h2⟩
    exact ⟨rfl, h1, ⟨h2.os, h2.tape, h2.output, h2.size, fun k hk hne => h2.block k hk (hne _ rfl)⟩⟩
/-- a hierarchy in rows of one's own. -/
structure OwnH (w : World) (B : Nat) (u : HV) (h : Hr) : Prop where
  node : w.ownsRow B 43 1 (.slice u.no h.node.length u.nc) h.node.length (wvs h.node)
  upF : w.ownsRow B 43 1 (.slice u.uo h.upF.length u.uc) h.upF.length (wvs h.upF)
  up : w.ownsRow B 47 4 (.slice u.ul h.up.length u.ulc) h.up.length (lvs h.up)
  dnF : w.ownsRow B 43 1 (.slice u.wo h.dnF.length u.wc) h.dnF.length (wvs h.dnF)
  dn : w.ownsRow B 47 4 (.slice u.dl h.dn.length u.dlc) h.dn.length (lvs h.dn)
theorem turn_res {W : World} {z : Nat} {x0 x1 x2 x3 x4 : Value} {tmps : Array Value} (h1 : W.heap[z]? = some (.cells #[x0, x1, x2, x3, x4] 25)) (t4 : tmps[2]?.getD undef = .pointer (some ⟨z, 0, none⟩)) (t3 : tmps[3]?.getD undef = .nilIface) :
    (results Try.f7 tmps).run Try.prog W = .ok (.tuple #[.agg #[x0, x1, x2, x3, x4], .nilIface]) W := by
  obtain ⟨c0, c1, c2, c3, c4⟩ := five_cells h1
  simp [results, Try.results7, go_sem, t4, t3, c0, c1, c2, c3, c4]

/-- two rows in blocks apart. -/
def Apart (x y : Option Addr) : Prop := ∀ a c, x = some a → y = some c → a.block ≠ c.block
theorem Apart.symm {x y : Option Addr} (h : Apart x y) : Apart y x := fun a c e f g => h c a f e g.symm
/-- the hierarchy under way, in its box. -/
structure TB (W0 : World) (h : Hr) (m1 m2 m3 m4 m5 : Option Addr) (c1 c2 c3 c4 c5 : Nat) (b : Nat) (U D : List Lk) (W : World) : Prop where
  bel : Below W0.heap.size W0 W
  box : W.heap[b]? = some (.cells #[.slice m1 h.node.length c1, .slice m2 h.dnF.length c2, .slice m3 h.dn.length c3, .slice m4 h.upF.length c4, .slice m5 h.up.length c5] 25)
  r1 : W.ownsRow W0.heap.size 43 1 (.slice m1 h.node.length c1) h.node.length (wvs h.node)
  r2 : W.ownsRow W0.heap.size 43 1 (.slice m2 h.dnF.length c2) h.dnF.length (wvs h.dnF)
  r3 : W.ownsRow W0.heap.size 47 4 (.slice m3 h.dn.length c3) h.dn.length (lvs U)
  r4 : W.ownsRow W0.heap.size 43 1 (.slice m4 h.upF.length c4) h.upF.length (wvs h.upF)
  r5 : W.ownsRow W0.heap.size 47 4 (.slice m5 h.up.length c5) h.up.length (lvs D)
  o3 : ∀ a, m3 = some a → a.block ≠ b
  o5 : ∀ a, m5 = some a → a.block ≠ b
  a13 : Apart m1 m3
  a23 : Apart m2 m3
  a43 : Apart m4 m3
  a53 : Apart m5 m3
  a15 : Apart m1 m5
  a25 : Apart m2 m5
  a45 : Apart m4 m5
variable {W0 W W' : World} {h : Hr} {m1 m2 m3 m4 m5 : Option Addr} {c1 c2 c3 c4 c5 b : Nat} {U D U' D' : List Lk}
theorem TB.three (t : TB W0 h m1 m2 m3 m4 m5 c1 c2 c3 c4 c5 b U D W) (ht : TouchO W W' m3) (ho : W'.ownsRow W0.heap.size 47 4 (.slice m3 h.dn.length c3) h.dn.length (lvs U')) : TB W0 h m1 m2 m3 m4 m5 c1 c2 c3 c4 c5 b U' D W' :=
  ⟨ht.below t.bel (own_high t.r3) t.bel.size, (ht.block b (some_lt t.box) (fun a e => (t.o3 a e).symm)).trans t.box, ht.own t.r1 t.a13, ht.own t.r2 t.a23, ho, ht.own t.r4 t.a43, ht.own t.r5 t.a53, t.o3, t.o5, t.a13, t.a23, t.a43, t.a53, t.a15, t.a25, t.a45⟩
theorem TB.five (t : TB W0 h m1 m2 m3 m4 m5 c1 c2 c3 c4 c5 b U D W) (ht : TouchO W W' m5) (ho : W'.ownsRow W0.heap.size 47 4 (.slice m5 h.up.length c5) h.up.length (lvs D')) : TB W0 h m1 m2 m3 m4 m5 c1 c2 c3 c4 c5 b U D' W' :=
  ⟨ht.below t.bel (own_high t.r5) t.bel.size, (ht.block b (some_lt t.box) (fun a e => (t.o5 a e).symm)).trans t.box, ht.own t.r1 t.a15, ht.own t.r2 t.a25, ht.own t.r3 t.a53.symm, ht.own t.r4 t.a45, ho, t.o3, t.o5, t.a13, t.a23, t.a43, t.a53, t.a15, t.a25, t.a45⟩
/-- rows that were made one behind the other, the box among them. -/
theorem TB.made {y5 WE : World} (hb5 : Below W0.heap.size W0 WE) (hbox : WE.heap[b]? = some (.cells #[.slice m1 h.node.length c1, .slice m2 h.dnF.length c2, .slice m3 h.dn.length c3, .slice m4 h.upF.length c4, .slice m5 h.up.length c5] 25)) (hfar : ∀ k, k < y5.heap.size → k ≠ b → WE.heap[k]? = y5.heap[k]?)
    (x1 : y5.ownsRow W0.heap.size 43 1 (.slice m1 h.node.length c1) h.node.length (wvs h.node)) (x2 : y5.ownsRow W0.heap.size 43 1 (.slice m2 h.dnF.length c2) h.dnF.length (wvs h.dnF)) (x3 : y5.ownsRow W0.heap.size 47 4 (.slice m3 h.dn.length c3) h.dn.length (lvs h.dn)) (x4 : y5.ownsRow W0.heap.size 43 1 (.slice m4 h.upF.length c4) h.upF.length (wvs h.upF)) (x5 : y5.ownsRow W0.heap.size 47 4 (.slice m5 h.up.length c5) h.up.length (lvs h.up))
    (n1 n2 n3 n4 : Nat) (l1 : ∀ a, m1 = some a → a.block < n1) (l2 : ∀ a, m2 = some a → n1 ≤ a.block ∧ a.block < n2) (l3 : ∀ a, m3 = some a → n2 ≤ a.block ∧ a.block < n3) (l4 : ∀ a, m4 = some a → n3 ≤ a.block ∧ a.block < n4) (l5 : ∀ a, m5 = some a → n4 ≤ a.block) (s1 : n1 ≤ n2) (s2 : n2 ≤ n3) (s3 : n3 ≤ n4)
    (p1 : ∀ a, m1 = some a → a.block ≠ b) (p2 : ∀ a, m2 = some a → a.block ≠ b) (p3 : ∀ a, m3 = some a → a.block ≠ b) (p4 : ∀ a, m4 = some a → a.block ≠ b) (p5 : ∀ a, m5 = some a → a.block ≠ b) : TB W0 h m1 m2 m3 m4 m5 c1 c2 c3 c4 c5 b h.dn h.up WE := by
  have keep : ∀ {T : TypeId} {z n m c : Nat} {xo : Option Addr} {xs : List Value}, y5.ownsRow W0.heap.size T z (.slice xo n c) m xs → (∀ a, xo = some a → a.block ≠ b) → WE.ownsRow W0.heap.size T z (.slice xo n c) m xs := fun {T z n m c xo xs} ho hp => own_keep ho fun k cur e hh => (hfar k (some_lt hh) (by
    cases xo with
    | none => simp [Value.ownBlock] at e
    | some a => simp [Value.ownBlock] at e; rw [← e]; exact hp a rfl)).trans hh
  refine ⟨hb5, hbox, keep x1 p1, keep x2 p2, keep x3 p3, keep x4 p4, keep x5 p5, p3, p5, ?_, ?_, ?_, ?_, ?_, ?_, ?_⟩
  · intro a c e f; have := l1 a e; have := l3 c f; omega
  · intro a c e f; have := l2 a e; have := l3 c f; omega
  · intro a c e f; have := l4 a e; have := l3 c f; omega
  · intro a c e f; have := l5 a e; have := l3 c f; omega
  · intro a c e f; have := l1 a e; have := l5 c f; omega
  · intro a c e f; have := l2 a e; have := l5 c f; omega
  · intro a c e f; have := l4 a e; have := l5 c f; omega

theorem bb {a c d : World} (x : Below a.heap.size a c) (y : Below c.heap.size c d) : Below a.heap.size a d := x.trans (y.mono x.size)
theorem turn_end {w w8 : World} {z : Nat} (hz : w.heap.size = z) (hs : z + 1 < W0.heap.size) (hb : Below w.heap.size w w8) (t : TB W0 h m1 m2 m3 m4 m5 c1 c2 c3 c4 c5 b (h.dn.map (turnL h.up.length h.dn.length)) (h.up.map (turnL h.up.length h.dn.length)) w8) :
    ∃ u, Ending.returned (.tuple #[.agg #[.slice m1 h.node.length c1, .slice m2 h.dnF.length c2, .slice m3 h.dn.length c3, .slice m4 h.upF.length c4, .slice m5 h.up.length c5], .nilIface]) = .returned (.tuple #[hvl u (turnH h), .nilIface]) ∧ OwnH (((((w8.setCell ⟨z + 1, 0, none⟩ (.slice m1 h.node.length c1)).setCell ⟨z + 1, 1, none⟩ (.slice m2 h.dnF.length c2)).setCell ⟨z + 1, 2, none⟩ (.slice m3 h.dn.length c3)).setCell ⟨z + 1, 3, none⟩ (.slice m4 h.upF.length c4)).setCell ⟨z + 1, 4, none⟩ (.slice m5 h.up.length c5)) w.heap.size u (turnH h) ∧ Below w.heap.size w (((((w8.setCell ⟨z + 1, 0, none⟩ (.slice m1 h.node.length c1)).setCell ⟨z + 1, 1, none⟩ (.slice m2 h.dnF.length c2)).setCell ⟨z + 1, 2, none⟩ (.slice m3 h.dn.length c3)).setCell ⟨z + 1, 3, none⟩ (.slice m4 h.upF.length c4)).setCell ⟨z + 1, 4, none⟩ (.slice m5 h.up.length c5)) := by
  have hbb := ((((hb.setCell (p := ⟨z + 1, 0, none⟩) (by show w.heap.size ≤ z + 1; omega) (.slice m1 h.node.length c1)).setCell (p := ⟨z + 1, 1, none⟩) (by show w.heap.size ≤ z + 1; omega) (.slice m2 h.dnF.length c2)).setCell (p := ⟨z + 1, 2, none⟩) (by show w.heap.size ≤ z + 1; omega) (.slice m3 h.dn.length c3)).setCell (p := ⟨z + 1, 3, none⟩) (by show w.heap.size ≤ z + 1; omega) (.slice m4 h.upF.length c4)).setCell (p := ⟨z + 1, 4, none⟩) (by show w.heap.size ≤ z + 1; omega) (.slice m5 h.up.length c5)
  obtain ⟨hf1, hf2⟩ := five_far w8 (z + 1) (.slice m1 h.node.length c1) (.slice m2 h.dnF.length c2) (.slice m3 h.dn.length c3) (.slice m4 h.upF.length c4) (.slice m5 h.up.length c5)
  generalize ((((w8.setCell ⟨z + 1, 0, none⟩ (.slice m1 h.node.length c1)).setCell ⟨z + 1, 1, none⟩ (.slice m2 h.dnF.length c2)).setCell ⟨z + 1, 2, none⟩ (.slice m3 h.dn.length c3)).setCell ⟨z + 1, 3, none⟩ (.slice m4 h.upF.length c4)).setCell ⟨z + 1, 4, none⟩ (.slice m5 h.up.length c5) = WE at hbb hf1 hf2 ⊢
  have keep : ∀ {T : TypeId} {y n m c : Nat} {xo : Option Addr} {xs : List Value}, w8.ownsRow W0.heap.size T y (.slice xo n c) m xs → WE.ownsRow w.heap.size T y (.slice xo n c) m xs := fun {T y n m c xo xs} ho => own_mono (own_keep ho fun k cur e hh => (hf1 k (by
    cases xo with
    | none => simp [Value.ownBlock] at e
    | some a => simp [Value.ownBlock] at e; have := own_high ho a rfl; omega)).trans hh) (by omega)
  refine ⟨⟨m1, m2, m3, m4, m5, c1, c2, c3, c4, c5⟩, by simp [hvl, turnH], ⟨keep t.r1, keep t.r2, ?_, keep t.r4, ?_⟩, hbb⟩
  · have g := keep t.r3
    simpa [turnH] using g
  · have g := keep t.r5
    simpa [turnH] using g

set_option maxRecDepth 100000 in
set_option maxHeartbeats 4000000 in
theorem turn_good (v : HV) (h : Hr) (w : World) (hH : HasH w v h) (hc : chk h = (0, [])) :
    Calls Try.prog 7 #[hvl v h] w fun e w' => ∃ u, e = .returned (.tuple #[hvl u (turnH h), .nilIface]) ∧ OwnH w' w.heap.size u (turnH h) ∧ Below w.heap.size w w' := by
  obtain ⟨k1, k2, k3, k4, k5, k6, k7, k8⟩ := chk_ok hc
  have hr : Reach h := ⟨by omega, by omega, by omega, by omega, by omega⟩
  obtain ⟨z, hz⟩ : ∃ z, w.heap.size = z := ⟨_, rfl⟩
  obtain ⟨W0, hW0⟩ : ∃ W0, (w.alloc (.cells (cellsH v h) 25)).alloc (.cells #[.slice none 0 0, .slice none 0 0, .slice none 0 0, .slice none 0 0, .slice none 0 0] 25) = W0 := ⟨_, rfl⟩
  have hB0 : Below w.heap.size w W0 := by rw [← hW0]; exact ((Below.refl _ w).alloc (Nat.le_refl _) _).alloc (by simp) _
  have h0 : W0.heap[z]? = some (.cells (cellsH v h) 25) := by
    rw [← hW0, ← hz]; exact (Below.heap_alloc _ _ _ (by simp)).trans (heap_newW _ _)
  have h1 : W0.heap[z + 1]? = some (.cells #[.slice none 0 0, .slice none 0 0, .slice none 0 0, .slice none 0 0, .slice none 0 0] 25) := by
    have g := heap_newW (w.alloc (.cells (cellsH v h) 25)) (.cells #[.slice none 0 0, .slice none 0 0, .slice none 0 0, .slice none 0 0, .slice none 0 0] 25)
    rw [World.size_alloc, hW0, hz] at g
    exact g
  have HS0 : Hid (z + 1 < W0.heap.size) := some_lt h1
  have HB0 : Hid (∀ wx, Below W0.heap.size W0 wx → Below w.heap.size w wx ∧ wx.heap[z + 1]? = some (.cells #[.slice none 0 0, .slice none 0 0, .slice none 0 0, .slice none 0 0, .slice none 0 0] 25)) := fun wx hx => ⟨hB0.trans (hx.mono hB0.size), (hx.block _ (some_lt h1)).trans h1⟩
  have HQ : Hid (∀ wx, Below W0.heap.size W0 wx → wx.cell? ⟨z, 0, none⟩ = some (.slice v.no h.node.length v.nc) ∧ wx.cell? ⟨z, 1, none⟩ = some (.slice v.uo h.upF.length v.uc) ∧ wx.cell? ⟨z, 2, none⟩ = some (.slice v.ul h.up.length v.ulc) ∧ wx.cell? ⟨z, 3, none⟩ = some (.slice v.wo h.dnF.length v.wc) ∧ wx.cell? ⟨z, 4, none⟩ = some (.slice v.dl h.dn.length v.dlc)) := fun wx hx => five_cells ((hx.block _ (some_lt h0)).trans h0)
  have HCK : Hid (Calls Try.prog 19 #[hvl v h] W0 fun e w' => e = .returned .nilIface ∧ Below W0.heap.size W0 w') := check_ok (hH.keep hB0) hc
  have H1 : Hid (∀ wx, Below W0.heap.size W0 wx → Calls Try.prog 23 #[.slice v.no h.node.length v.nc] wx fun e w' => ∃ mo mc, e = .returned (.slice mo h.node.length mc) ∧ w'.ownsRow wx.heap.size 43 1 (.slice mo h.node.length mc) h.node.length (wvs h.node) ∧ Below W0.heap.size W0 w' ∧ Below wx.heap.size wx w') := fun wx hx => (cloneW_calls _ _ _ wx (hH.node.keep (hB0.trans (hx.mono hB0.size))) hr.node).mono (by rintro e w' ⟨mo, mc, rfl, ho, hb⟩; exact ⟨mo, mc, rfl, ho, btrH' hx hb, hb⟩)
  have H2 : Hid (∀ wx, Below W0.heap.size W0 wx → Calls Try.prog 23 #[.slice v.wo h.dnF.length v.wc] wx fun e w' => ∃ mo mc, e = .returned (.slice mo h.dnF.length mc) ∧ w'.ownsRow wx.heap.size 43 1 (.slice mo h.dnF.length mc) h.dnF.length (wvs h.dnF) ∧ Below W0.heap.size W0 w' ∧ Below wx.heap.size wx w') := fun wx hx => (cloneW_calls _ _ _ wx (hH.dnF.keep (hB0.trans (hx.mono hB0.size))) hr.dnF).mono (by rintro e w' ⟨mo, mc, rfl, ho, hb⟩; exact ⟨mo, mc, rfl, ho, btrH' hx hb, hb⟩)
  have H3 : Hid (∀ wx, Below W0.heap.size W0 wx → Calls Try.prog 24 #[.slice v.dl h.dn.length v.dlc] wx fun e w' => ∃ mo mc, e = .returned (.slice mo h.dn.length mc) ∧ w'.ownsRow wx.heap.size 47 4 (.slice mo h.dn.length mc) h.dn.length (lvs h.dn) ∧ Below W0.heap.size W0 w' ∧ Below wx.heap.size wx w') := fun wx hx => (cloneL_calls _ _ _ wx (hH.dn.keep (hB0.trans (hx.mono hB0.size))) hr.dn).mono (by rintro e w' ⟨mo, mc, rfl, ho, hb⟩; exact ⟨mo, mc, rfl, ho, btrH' hx hb, hb⟩)
  have H4 : Hid (∀ wx, Below W0.heap.size W0 wx → Calls Try.prog 23 #[.slice v.uo h.upF.length v.uc] wx fun e w' => ∃ mo mc, e = .returned (.slice mo h.upF.length mc) ∧ w'.ownsRow wx.heap.size 43 1 (.slice mo h.upF.length mc) h.upF.length (wvs h.upF) ∧ Below W0.heap.size W0 w' ∧ Below wx.heap.size wx w') := fun wx hx => (cloneW_calls _ _ _ wx (hH.upF.keep (hB0.trans (hx.mono hB0.size))) hr.upF).mono (by rintro e w' ⟨mo, mc, rfl, ho, hb⟩; exact ⟨mo, mc, rfl, ho, btrH' hx hb, hb⟩)
  have H5 : Hid (∀ wx, Below W0.heap.size W0 wx → Calls Try.prog 24 #[.slice v.ul h.up.length v.ulc] wx fun e w' => ∃ mo mc, e = .returned (.slice mo h.up.length mc) ∧ w'.ownsRow wx.heap.size 47 4 (.slice mo h.up.length mc) h.up.length (lvs h.up) ∧ Below W0.heap.size W0 w' ∧ Below wx.heap.size wx w') := fun wx hx => (cloneL_calls _ _ _ wx (hH.up.keep (hB0.trans (hx.mono hB0.size))) hr.up).mono (by rintro e w' ⟨mo, mc, rfl, ho, hb⟩; exact ⟨mo, mc, rfl, ho, btrH' hx hb, hb⟩)
  have HW0 : Hid ((w.alloc (.cells (cellsH v h) 25)).alloc (.cells #[.slice none 0 0, .slice none 0 0, .slice none 0 0, .slice none 0 0, .slice none 0 0] 25) = W0) := hW0
  have HKD : Hid ((∀ l ∈ h.up, l.plain = false → h.up.length ≤ l.lf ∧ h.dn.length + l.rt < 4294967296) ∧ ∀ l ∈ h.dn, l.plain = false → h.up.length ≤ l.lf ∧ h.dn.length + l.rt < 4294967296) := ⟨fun l hl hp => by have := kids_mem hc (Or.inl hl) hp; omega, fun l hl hp => by have := kids_mem hc (Or.inr hl) hp; omega⟩
  have HOK : Hid ((∀ x ∈ h.up, x.ok) ∧ (∀ x ∈ h.dn, x.ok) ∧ h.up.length ≤ 1048576 ∧ h.dn.length ≤ 1048576) := ⟨hH.up.ok, hH.dn.ok, by omega, by omega⟩
  have x1 : IntKind.u32.wrap (h.up.length : Int) = (h.up.length : Int) := by rw [IntKind.wrap_u32]; omega
  have x2 : IntKind.u32.wrap (h.dn.length : Int) = (h.dn.length : Int) := by rw [IntKind.wrap_u32]; omega
  clear hW0 h0 h1 hB0 hH hr hc k1 k2 k3 k4 k5 k6 k7 k8
  have HZZ : Hid (w.heap.size = z) := hz
  obtain ⟨a0, a1, a2, a3, a4⟩ := HQ.out W0 (Below.refl _ _)
  unfold cellsH at HW0
  unfold hvl at HCK ⊢
  go_enter Try.func7, Try.ntmps7
  go_upto_region 1 with fail
  rw [HW0.out]
  go_wp2_with (go_at_call 19; refine HCK.out.mono ?_; rintro e y0 ⟨rfl, hy⟩; have Y0 : Hid (Below W0.heap.size W0 y0) := hy; obtain ⟨a0, a1, a2, a3, a4⟩ := HQ.out y0 Y0.out; clear hy)
  have n0 : z ≠ y0.heap.size := (by have := HS0.out; have := Y0.out.size; omega)
  have p0 : y0.heap.size ≠ z := n0.symm
  go_quiet (fail)
  go_wp2_with fail
  go_region_held3 (fun w' => w'.cell? ⟨z, 0, none⟩ = some (.slice v.no h.node.length v.nc) ∧ w'.cell? ⟨z, 1, none⟩ = some (.slice v.uo h.upF.length v.uc) ∧ w'.cell? ⟨z, 2, none⟩ = some (.slice v.ul h.up.length v.ulc) ∧ w'.cell? ⟨z, 3, none⟩ = some (.slice v.wo h.dnF.length v.wc) ∧ w'.cell? ⟨z, 4, none⟩ = some (.slice v.dl h.dn.length v.dlc)) (go_keep) (first
    | (go_at_call 24; refine (H5.out _ (by first | exact Y4.out | exact Y4.out.alloc (Below.size Y4.out) _)).mono ?_; rintro e y5 ⟨m5, c5, rfl, hh, hx, hy⟩; have Y5 : Hid (Below W0.heap.size W0 y5) := hx; have X5 : Hid (y5.ownsRow W0.heap.size 47 4 (.slice m5 h.up.length c5) h.up.length (lvs h.up)) := own_mono hh (by have := Below.size hx; have := hy.size; first | exact Y4.out.size | exact Nat.le_trans Y4.out.size (by simp)); have B5 : Hid (Below y4.heap.size y4 y5) := (by first | exact belD hy | exact belAD hy | exact hy | exact belA hy); have Q5 : Hid (_ ≤ y5.heap.size) := hy.size; have L5 : Hid (∀ a, m5 = some a → _ ≤ a.block ∧ a.block < y5.heap.size) := fun a e => ⟨own_high hh a e, own_low hh a e⟩; (first | (have Z : Hid (y5.heap[y4.heap.size]? = some (.cells #[.slice none 0 0, .slice none 0 0, .slice none 0 0, .slice none 0 0, .slice none 0 0] 25)) := (hy.block _ (some_lt (heap_newW _ (.cells #[.slice none 0 0, .slice none 0 0, .slice none 0 0, .slice none 0 0, .slice none 0 0] 25)))).trans (heap_newW _ (.cells #[.slice none 0 0, .slice none 0 0, .slice none 0 0, .slice none 0 0, .slice none 0 0] 25))) | (have Z' := boxKeep Z hy; clear Z; have Z := Z'; clear Z') | skip); (try (have zc := five_cells Z.out; have zf := five_free Z.out; obtain ⟨z0, z1, z2, z3, z4⟩ := zc; obtain ⟨f0, f1, f2, f3, f4⟩ := zf)); have n5 : z ≠ y5.heap.size := (by have := HS0.out; have := Y5.out.size; omega); have p5 : y5.heap.size ≠ z := n5.symm; obtain ⟨a0, a1, a2, a3, a4⟩ := HQ.out y5 Y5.out; clear hy hh hx)
    | (go_at_call 23; refine (H4.out _ (by first | exact Y3.out | exact Y3.out.alloc (Below.size Y3.out) _)).mono ?_; rintro e y4 ⟨m4, c4, rfl, hh, hx, hy⟩; have Y4 : Hid (Below W0.heap.size W0 y4) := hx; have X4 : Hid (y4.ownsRow W0.heap.size 43 1 (.slice m4 h.upF.length c4) h.upF.length (wvs h.upF)) := own_mono hh (by have := Below.size hx; have := hy.size; first | exact Y3.out.size | exact Nat.le_trans Y3.out.size (by simp)); have B4 : Hid (Below y3.heap.size y3 y4) := (by first | exact belD hy | exact belAD hy | exact hy | exact belA hy); have Q4 : Hid (_ ≤ y4.heap.size) := hy.size; have L4 : Hid (∀ a, m4 = some a → _ ≤ a.block ∧ a.block < y4.heap.size) := fun a e => ⟨own_high hh a e, own_low hh a e⟩; (first | (have Z : Hid (y4.heap[y3.heap.size]? = some (.cells #[.slice none 0 0, .slice none 0 0, .slice none 0 0, .slice none 0 0, .slice none 0 0] 25)) := (hy.block _ (some_lt (heap_newW _ (.cells #[.slice none 0 0, .slice none 0 0, .slice none 0 0, .slice none 0 0, .slice none 0 0] 25)))).trans (heap_newW _ (.cells #[.slice none 0 0, .slice none 0 0, .slice none 0 0, .slice none 0 0, .slice none 0 0] 25))) | (have Z' := boxKeep Z hy; clear Z; have Z := Z'; clear Z') | skip); (try (have zc := five_cells Z.out; have zf := five_free Z.out; obtain ⟨z0, z1, z2, z3, z4⟩ := zc; obtain ⟨f0, f1, f2, f3, f4⟩ := zf)); have n4 : z ≠ y4.heap.size := (by have := HS0.out; have := Y4.out.size; omega); have p4 : y4.heap.size ≠ z := n4.symm; obtain ⟨a0, a1, a2, a3, a4⟩ := HQ.out y4 Y4.out; clear hy hh hx)
    | (go_at_call 24; refine (H3.out _ (by first | exact Y2.out | exact Y2.out.alloc (Below.size Y2.out) _)).mono ?_; rintro e y3 ⟨m3, c3, rfl, hh, hx, hy⟩; have Y3 : Hid (Below W0.heap.size W0 y3) := hx; have X3 : Hid (y3.ownsRow W0.heap.size 47 4 (.slice m3 h.dn.length c3) h.dn.length (lvs h.dn)) := own_mono hh (by have := Below.size hx; have := hy.size; first | exact Y2.out.size | exact Nat.le_trans Y2.out.size (by simp)); have B3 : Hid (Below y2.heap.size y2 y3) := (by first | exact belD hy | exact belAD hy | exact hy | exact belA hy); have Q3 : Hid (_ ≤ y3.heap.size) := hy.size; have L3 : Hid (∀ a, m3 = some a → _ ≤ a.block ∧ a.block < y3.heap.size) := fun a e => ⟨own_high hh a e, own_low hh a e⟩; (first | (have Z : Hid (y3.heap[y2.heap.size]? = some (.cells #[.slice none 0 0, .slice none 0 0, .slice none 0 0, .slice none 0 0, .slice none 0 0] 25)) := (hy.block _ (some_lt (heap_newW _ (.cells #[.slice none 0 0, .slice none 0 0, .slice none 0 0, .slice none 0 0, .slice none 0 0] 25)))).trans (heap_newW _ (.cells #[.slice none 0 0, .slice none 0 0, .slice none 0 0, .slice none 0 0, .slice none 0 0] 25))) | (have Z' := boxKeep Z hy; clear Z; have Z := Z'; clear Z') | skip); (try (have zc := five_cells Z.out; have zf := five_free Z.out; obtain ⟨z0, z1, z2, z3, z4⟩ := zc; obtain ⟨f0, f1, f2, f3, f4⟩ := zf)); have n3 : z ≠ y3.heap.size := (by have := HS0.out; have := Y3.out.size; omega); have p3 : y3.heap.size ≠ z := n3.symm; obtain ⟨a0, a1, a2, a3, a4⟩ := HQ.out y3 Y3.out; clear hy hh hx)
    | (go_at_call 23; refine (H2.out _ (by first | exact Y1.out | exact Y1.out.alloc (Below.size Y1.out) _)).mono ?_; rintro e y2 ⟨m2, c2, rfl, hh, hx, hy⟩; have Y2 : Hid (Below W0.heap.size W0 y2) := hx; have X2 : Hid (y2.ownsRow W0.heap.size 43 1 (.slice m2 h.dnF.length c2) h.dnF.length (wvs h.dnF)) := own_mono hh (by have := Below.size hx; have := hy.size; first | exact Y1.out.size | exact Nat.le_trans Y1.out.size (by simp)); have B2 : Hid (Below y1.heap.size y1 y2) := (by first | exact belD hy | exact belAD hy | exact hy | exact belA hy); have Q2 : Hid (_ ≤ y2.heap.size) := hy.size; have L2 : Hid (∀ a, m2 = some a → _ ≤ a.block ∧ a.block < y2.heap.size) := fun a e => ⟨own_high hh a e, own_low hh a e⟩; (first | (have Z : Hid (y2.heap[y1.heap.size]? = some (.cells #[.slice none 0 0, .slice none 0 0, .slice none 0 0, .slice none 0 0, .slice none 0 0] 25)) := (hy.block _ (some_lt (heap_newW _ (.cells #[.slice none 0 0, .slice none 0 0, .slice none 0 0, .slice none 0 0, .slice none 0 0] 25)))).trans (heap_newW _ (.cells #[.slice none 0 0, .slice none 0 0, .slice none 0 0, .slice none 0 0, .slice none 0 0] 25))) | (have Z' := boxKeep Z hy; clear Z; have Z := Z'; clear Z') | skip); (try (have zc := five_cells Z.out; have zf := five_free Z.out; obtain ⟨z0, z1, z2, z3, z4⟩ := zc; obtain ⟨f0, f1, f2, f3, f4⟩ := zf)); have n2 : z ≠ y2.heap.size := (by have := HS0.out; have := Y2.out.size; omega); have p2 : y2.heap.size ≠ z := n2.symm; obtain ⟨a0, a1, a2, a3, a4⟩ := HQ.out y2 Y2.out; clear hy hh hx)
    | (go_at_call 23; refine (H1.out _ (by first | exact bdrew Y0.out _ | exact (bdrew Y0.out _).alloc (Below.size (bdrew Y0.out _)) _)).mono ?_; rintro e y1 ⟨m1, c1, rfl, hh, hx, hy⟩; have Y1 : Hid (Below W0.heap.size W0 y1) := hx; have X1 : Hid (y1.ownsRow W0.heap.size 43 1 (.slice m1 h.node.length c1) h.node.length (wvs h.node)) := own_mono hh (by have := Below.size hx; have := hy.size; first | exact Y0.out.size | exact Nat.le_trans Y0.out.size (by simp)); have B1 : Hid (Below y0.heap.size y0 y1) := (by first | exact belD hy | exact belAD hy | exact hy | exact belA hy); have Q1 : Hid (_ ≤ y1.heap.size) := hy.size; have L1 : Hid (∀ a, m1 = some a → _ ≤ a.block ∧ a.block < y1.heap.size) := fun a e => ⟨own_high hh a e, own_low hh a e⟩; (first | (have Z : Hid (y1.heap[y0.heap.size]? = some (.cells #[.slice none 0 0, .slice none 0 0, .slice none 0 0, .slice none 0 0, .slice none 0 0] 25)) := (hy.block _ (some_lt (heap_newW _ (.cells #[.slice none 0 0, .slice none 0 0, .slice none 0 0, .slice none 0 0, .slice none 0 0] 25)))).trans (heap_newW _ (.cells #[.slice none 0 0, .slice none 0 0, .slice none 0 0, .slice none 0 0, .slice none 0 0] 25))) | (have Z' := boxKeep Z hy; clear Z; have Z := Z'; clear Z') | skip); (try (have zc := five_cells Z.out; have zf := five_free Z.out; obtain ⟨z0, z1, z2, z3, z4⟩ := zc; obtain ⟨f0, f1, f2, f3, f4⟩ := zf)); have n1 : z ≠ y1.heap.size := (by have := HS0.out; have := Y1.out.size; omega); have p1 : y1.heap.size ≠ z := n1.symm; obtain ⟨a0, a1, a2, a3, a4⟩ := HQ.out y1 Y1.out; clear hy hh hx))
  · have hT : Hid (TB W0 h m1 m2 m3 m4 m5 c1 c2 c3 c4 c5 (y5.heap.size) h.dn h.up (y5.alloc (.cells #[.slice m1 h.node.length c1, .slice m2 h.dnF.length c2, .slice m3 h.dn.length c3, .slice m4 h.upF.length c4, .slice m5 h.up.length c5] 25))) := by
      have k1 := L1.out; have k2 := L2.out; have k3 := L3.out; have k4 := L4.out; have k5 := L5.out
      have q1 := B1.out.size; have q2 := B2.out.size; have q3 := B3.out.size; have q4 := B4.out.size; have q5 := B5.out.size
      have v1 := Q1.out; have v2 := Q2.out; have v3 := Q3.out; have v4 := Q4.out; have v5 := Q5.out
      (try simp only [World.size_alloc] at k1 k2 k3 k4 k5 v1 v2 v3 v4 v5)
      refine TB.made (y5 := y5) (Y5.out.alloc Y5.out.size _) (heap_newW _ _) (fun j hj _ => Below.heap_alloc _ _ _ hj) (own_below X1.out (bb B2.out (bb B3.out (bb B4.out B5.out)))) (own_below X2.out (bb B3.out (bb B4.out B5.out))) (own_below X3.out (bb B4.out B5.out)) (own_below X4.out B5.out) X5.out y1.heap.size y2.heap.size y3.heap.size y4.heap.size ?_ ?_ ?_ ?_ ?_ q2 q3 q4 ?_ ?_ ?_ ?_ ?_
      all_goals intro a e
      · exact (k1 a e).2
      · have := k2 a e; omega
      · have := k3 a e; omega
      · have := k4 a e; omega
      · have := k5 a e; omega
      · have := k1 a e; have kk : (y0.drewN (nq + 1)).heap.size = y0.heap.size := rfl; omega
      · have := k2 a e; have kk : (y0.drewN (nq + 1)).heap.size = y0.heap.size := rfl; omega
      · have := k3 a e; have kk : (y0.drewN (nq + 1)).heap.size = y0.heap.size := rfl; omega
      · have := k4 a e; have kk : (y0.drewN (nq + 1)).heap.size = y0.heap.size := rfl; omega
      · have := k5 a e; have kk : (y0.drewN (nq + 1)).heap.size = y0.heap.size := rfl; omega
    clear X1 X2 X3 X4 X5 L1 L2 L3 L4 L5 Q1 Q2 Q3 Q4 Q5 B1 B2 B3 B4 B5 HQ H1 H2 H3 H4 H5 a0 a1 a2 a3 a4
    generalize (y5.alloc (.cells #[.slice m1 h.node.length c1, .slice m2 h.dnF.length c2, .slice m3 h.dn.length c3, .slice m4 h.upF.length c4, .slice m5 h.up.length c5] 25)) = W6 at *
    generalize y5.heap.size = bb6 at *
    clear Y1 Y2 Y3 Y4 Y5
    obtain ⟨e0, e1, e2, e3, e4⟩ := five_cells hT.out.box
    go_wp2_with fail
    refine (turnC_any m3 c3 h.up.length h.dn.length W0.heap.size h.dn W6 hT.out.r3 HOK.out.2.1 HKD.out.2 HOK.out.2.2.2).mono ?_
    rintro e w7 ⟨rfl, ho7, ht7⟩
    have hT7 : Hid (TB W0 h m1 m2 m3 m4 m5 c1 c2 c3 c4 c5 bb6 (h.dn.map (turnL h.up.length h.dn.length)) h.up w7) := hT.out.three ht7 ho7
    clear ho7 ht7 e0 e1 e2 e3 e4
    obtain ⟨e0, e1, e2, e3, e4⟩ := five_cells hT7.out.box
    go_wp2_with fail
    refine (turnC_any m5 c5 h.up.length h.dn.length W0.heap.size h.up w7 hT7.out.r5 HOK.out.1 HKD.out.1 HOK.out.2.2.1).mono ?_
    rintro e w8 ⟨rfl, ho8, ht8⟩
    have hT8 : Hid (TB W0 h m1 m2 m3 m4 m5 c1 c2 c3 c4 c5 bb6 (h.dn.map (turnL h.up.length h.dn.length)) (h.up.map (turnL h.up.length h.dn.length)) w8) := hT7.out.five ht8 ho8
    clear ho8 ht8 e0 e1 e2 e3 e4
    obtain ⟨e0, e1, e2, e3, e4⟩ := five_cells hT8.out.box
    obtain ⟨g0, g1, g2, g3, g4⟩ := five_cells (HB0.out w8 hT8.out.bel).2
    obtain ⟨f0, f1, f2, f3, f4⟩ := five_free (HB0.out w8 hT8.out.bel).2
    go_wp2
    exact bodyPost_ret (turn_res (set_five (HB0.out w8 hT8.out.bel).2 _ _ _ _ _) rfl rfl) rfl (turn_end HZZ.out HS0.out (HB0.out w8 hT8.out.bel).1 hT8.out)
  · have hT : Hid (TB W0 h m1 m2 m3 m4 m5 c1 c2 c3 c4 c5 (y4.heap.size) h.dn h.up (((((y5.setCell ⟨y4.heap.size, 0, none⟩ (.slice m1 h.node.length c1)).setCell ⟨y4.heap.size, 1, none⟩ (.slice m2 h.dnF.length c2)).setCell ⟨y4.heap.size, 2, none⟩ (.slice m3 h.dn.length c3)).setCell ⟨y4.heap.size, 3, none⟩ (.slice m4 h.upF.length c4)).setCell ⟨y4.heap.size, 4, none⟩ (.slice m5 h.up.length c5))) := by
      have k1 := L1.out; have k2 := L2.out; have k3 := L3.out; have k4 := L4.out; have k5 := L5.out
      have q1 := B1.out.size; have q2 := B2.out.size; have q3 := B3.out.size; have q4 := B4.out.size; have q5 := B5.out.size
      have v1 := Q1.out; have v2 := Q2.out; have v3 := Q3.out; have v4 := Q4.out; have v5 := Q5.out
      (try simp only [World.size_alloc] at k1 k2 k3 k4 k5 v1 v2 v3 v4 v5)
      refine TB.made (y5 := y5) ((((((Y5.out.setCell (p := ⟨y4.heap.size, 0, none⟩) Y4.out.size _).setCell (p := ⟨y4.heap.size, 1, none⟩) Y4.out.size _).setCell (p := ⟨y4.heap.size, 2, none⟩) Y4.out.size _).setCell (p := ⟨y4.heap.size, 3, none⟩) Y4.out.size _).setCell (p := ⟨y4.heap.size, 4, none⟩) Y4.out.size _)) (set_five Z.out _ _ _ _ _) (fun j _ hne => (five_far y5 (y4.heap.size) (.slice m1 h.node.length c1) (.slice m2 h.dnF.length c2) (.slice m3 h.dn.length c3) (.slice m4 h.upF.length c4) (.slice m5 h.up.length c5)).1 j hne) (own_below X1.out (bb B2.out (bb B3.out (bb B4.out B5.out)))) (own_below X2.out (bb B3.out (bb B4.out B5.out))) (own_below X3.out (bb B4.out B5.out)) (own_below X4.out B5.out) X5.out y1.heap.size y2.heap.size y3.heap.size y4.heap.size ?_ ?_ ?_ ?_ ?_ q2 q3 q4 ?_ ?_ ?_ ?_ ?_
      all_goals intro a e
      · exact (k1 a e).2
      · have := k2 a e; omega
      · have := k3 a e; omega
      · have := k4 a e; omega
      · have := k5 a e; omega
      · have := k1 a e; have kk : (y0.drewN (nq + 1)).heap.size = y0.heap.size := rfl; omega
      · have := k2 a e; have kk : (y0.drewN (nq + 1)).heap.size = y0.heap.size := rfl; omega
      · have := k3 a e; have kk : (y0.drewN (nq + 1)).heap.size = y0.heap.size := rfl; omega
      · have := k4 a e; have kk : (y0.drewN (nq + 1)).heap.size = y0.heap.size := rfl; omega
      · have := k5 a e; have kk : (y0.drewN (nq + 1)).heap.size = y0.heap.size := rfl; omega
    clear X1 X2 X3 X4 X5 L1 L2 L3 L4 L5 Q1 Q2 Q3 Q4 Q5 B1 B2 B3 B4 B5 HQ H1 H2 H3 H4 H5 a0 a1 a2 a3 a4
    generalize (((((y5.setCell ⟨y4.heap.size, 0, none⟩ (.slice m1 h.node.length c1)).setCell ⟨y4.heap.size, 1, none⟩ (.slice m2 h.dnF.length c2)).setCell ⟨y4.heap.size, 2, none⟩ (.slice m3 h.dn.length c3)).setCell ⟨y4.heap.size, 3, none⟩ (.slice m4 h.upF.length c4)).setCell ⟨y4.heap.size, 4, none⟩ (.slice m5 h.up.length c5)) = W6 at *
    generalize y4.heap.size = bb6 at *
    clear Y1 Y2 Y3 Y4 Y5
    obtain ⟨e0, e1, e2, e3, e4⟩ := five_cells hT.out.box
    go_wp2_with fail
    refine (turnC_any m3 c3 h.up.length h.dn.length W0.heap.size h.dn W6 hT.out.r3 HOK.out.2.1 HKD.out.2 HOK.out.2.2.2).mono ?_
    rintro e w7 ⟨rfl, ho7, ht7⟩
    have hT7 : Hid (TB W0 h m1 m2 m3 m4 m5 c1 c2 c3 c4 c5 bb6 (h.dn.map (turnL h.up.length h.dn.length)) h.up w7) := hT.out.three ht7 ho7
    clear ho7 ht7 e0 e1 e2 e3 e4
    obtain ⟨e0, e1, e2, e3, e4⟩ := five_cells hT7.out.box
    go_wp2_with fail
    refine (turnC_any m5 c5 h.up.length h.dn.length W0.heap.size h.up w7 hT7.out.r5 HOK.out.1 HKD.out.1 HOK.out.2.2.1).mono ?_
    rintro e w8 ⟨rfl, ho8, ht8⟩
    have hT8 : Hid (TB W0 h m1 m2 m3 m4 m5 c1 c2 c3 c4 c5 bb6 (h.dn.map (turnL h.up.length h.dn.length)) (h.up.map (turnL h.up.length h.dn.length)) w8) := hT7.out.five ht8 ho8
    clear ho8 ht8 e0 e1 e2 e3 e4
    obtain ⟨e0, e1, e2, e3, e4⟩ := five_cells hT8.out.box
    obtain ⟨g0, g1, g2, g3, g4⟩ := five_cells (HB0.out w8 hT8.out.bel).2
    obtain ⟨f0, f1, f2, f3, f4⟩ := five_free (HB0.out w8 hT8.out.bel).2
    go_wp2
    exact bodyPost_ret (turn_res (set_five (HB0.out w8 hT8.out.bel).2 _ _ _ _ _) rfl rfl) rfl (turn_end HZZ.out HS0.out (HB0.out w8 hT8.out.bel).1 hT8.out)
  · have hT : Hid (TB W0 h m1 m2 m3 m4 m5 c1 c2 c3 c4 c5 (y3.heap.size) h.dn h.up (((((y5.setCell ⟨y3.heap.size, 0, none⟩ (.slice m1 h.node.length c1)).setCell ⟨y3.heap.size, 1, none⟩ (.slice m2 h.dnF.length c2)).setCell ⟨y3.heap.size, 2, none⟩ (.slice m3 h.dn.length c3)).setCell ⟨y3.heap.size, 3, none⟩ (.slice m4 h.upF.length c4)).setCell ⟨y3.heap.size, 4, none⟩ (.slice m5 h.up.length c5))) := by
      have k1 := L1.out; have k2 := L2.out; have k3 := L3.out; have k4 := L4.out; have k5 := L5.out
      have q1 := B1.out.size; have q2 := B2.out.size; have q3 := B3.out.size; have q4 := B4.out.size; have q5 := B5.out.size
      have v1 := Q1.out; have v2 := Q2.out; have v3 := Q3.out; have v4 := Q4.out; have v5 := Q5.out
      (try simp only [World.size_alloc] at k1 k2 k3 k4 k5 v1 v2 v3 v4 v5)
      refine TB.made (y5 := y5) ((((((Y5.out.setCell (p := ⟨y3.heap.size, 0, none⟩) Y3.out.size _).setCell (p := ⟨y3.heap.size, 1, none⟩) Y3.out.size _).setCell (p := ⟨y3.heap.size, 2, none⟩) Y3.out.size _).setCell (p := ⟨y3.heap.size, 3, none⟩) Y3.out.size _).setCell (p := ⟨y3.heap.size, 4, none⟩) Y3.out.size _)) (set_five Z.out _ _ _ _ _) (fun j _ hne => (five_far y5 (y3.heap.size) (.slice m1 h.node.length c1) (.slice m2 h.dnF.length c2) (.slice m3 h.dn.length c3) (.slice m4 h.upF.length c4) (.slice m5 h.up.length c5)).1 j hne) (own_below X1.out (bb B2.out (bb B3.out (bb B4.out B5.out)))) (own_below X2.out (bb B3.out (bb B4.out B5.out))) (own_below X3.out (bb B4.out B5.out)) (own_below X4.out B5.out) X5.out y1.heap.size y2.heap.size y3.heap.size y4.heap.size ?_ ?_ ?_ ?_ ?_ q2 q3 q4 ?_ ?_ ?_ ?_ ?_
      all_goals intro a e
      · exact (k1 a e).2
      · have := k2 a e; omega
      · have := k3 a e; omega
      · have := k4 a e; omega
      · have := k5 a e; omega
      · have := k1 a e; have kk : (y0.drewN (nq + 1)).heap.size = y0.heap.size := rfl; omega
      · have := k2 a e; have kk : (y0.drewN (nq + 1)).heap.size = y0.heap.size := rfl; omega
      · have := k3 a e; have kk : (y0.drewN (nq + 1)).heap.size = y0.heap.size := rfl; omega
      · have := k4 a e; have kk : (y0.drewN (nq + 1)).heap.size = y0.heap.size := rfl; omega
      · have := k5 a e; have kk : (y0.drewN (nq + 1)).heap.size = y0.heap.size := rfl; omega
    clear X1 X2 X3 X4 X5 L1 L2 L3 L4 L5 Q1 Q2 Q3 Q4 Q5 B1 B2 B3 B4 B5 HQ H1 H2 H3 H4 H5 a0 a1 a2 a3 a4
    generalize (((((y5.setCell ⟨y3.heap.size, 0, none⟩ (.slice m1 h.node.length c1)).setCell ⟨y3.heap.size, 1, none⟩ (.slice m2 h.dnF.length c2)).setCell ⟨y3.heap.size, 2, none⟩ (.slice m3 h.dn.length c3)).setCell ⟨y3.heap.size, 3, none⟩ (.slice m4 h.upF.length c4)).setCell ⟨y3.heap.size, 4, none⟩ (.slice m5 h.up.length c5)) = W6 at *
    generalize y3.heap.size = bb6 at *
    clear Y1 Y2 Y3 Y4 Y5
    obtain ⟨e0, e1, e2, e3, e4⟩ := five_cells hT.out.box
    go_wp2_with fail
    refine (turnC_any m3 c3 h.up.length h.dn.length W0.heap.size h.dn W6 hT.out.r3 HOK.out.2.1 HKD.out.2 HOK.out.2.2.2).mono ?_
    rintro e w7 ⟨rfl, ho7, ht7⟩
    have hT7 : Hid (TB W0 h m1 m2 m3 m4 m5 c1 c2 c3 c4 c5 bb6 (h.dn.map (turnL h.up.length h.dn.length)) h.up w7) := hT.out.three ht7 ho7
    clear ho7 ht7 e0 e1 e2 e3 e4
    obtain ⟨e0, e1, e2, e3, e4⟩ := five_cells hT7.out.box
    go_wp2_with fail
    refine (turnC_any m5 c5 h.up.length h.dn.length W0.heap.size h.up w7 hT7.out.r5 HOK.out.1 HKD.out.1 HOK.out.2.2.1).mono ?_
    rintro e w8 ⟨rfl, ho8, ht8⟩
    have hT8 : Hid (TB W0 h m1 m2 m3 m4 m5 c1 c2 c3 c4 c5 bb6 (h.dn.map (turnL h.up.length h.dn.length)) (h.up.map (turnL h.up.length h.dn.length)) w8) := hT7.out.five ht8 ho8
    clear ho8 ht8 e0 e1 e2 e3 e4
    obtain ⟨e0, e1, e2, e3, e4⟩ := five_cells hT8.out.box
    obtain ⟨g0, g1, g2, g3, g4⟩ := five_cells (HB0.out w8 hT8.out.bel).2
    obtain ⟨f0, f1, f2, f3, f4⟩ := five_free (HB0.out w8 hT8.out.bel).2
    go_wp2
    exact bodyPost_ret (turn_res (set_five (HB0.out w8 hT8.out.bel).2 _ _ _ _ _) rfl rfl) rfl (turn_end HZZ.out HS0.out (HB0.out w8 hT8.out.bel).1 hT8.out)
  · have hT : Hid (TB W0 h m1 m2 m3 m4 m5 c1 c2 c3 c4 c5 (y2.heap.size) h.dn h.up (((((y5.setCell ⟨y2.heap.size, 0, none⟩ (.slice m1 h.node.length c1)).setCell ⟨y2.heap.size, 1, none⟩ (.slice m2 h.dnF.length c2)).setCell ⟨y2.heap.size, 2, none⟩ (.slice m3 h.dn.length c3)).setCell ⟨y2.heap.size, 3, none⟩ (.slice m4 h.upF.length c4)).setCell ⟨y2.heap.size, 4, none⟩ (.slice m5 h.up.length c5))) := by
      have k1 := L1.out; have k2 := L2.out; have k3 := L3.out; have k4 := L4.out; have k5 := L5.out
      have q1 := B1.out.size; have q2 := B2.out.size; have q3 := B3.out.size; have q4 := B4.out.size; have q5 := B5.out.size
      have v1 := Q1.out; have v2 := Q2.out; have v3 := Q3.out; have v4 := Q4.out; have v5 := Q5.out
      (try simp only [World.size_alloc] at k1 k2 k3 k4 k5 v1 v2 v3 v4 v5)
      refine TB.made (y5 := y5) ((((((Y5.out.setCell (p := ⟨y2.heap.size, 0, none⟩) Y2.out.size _).setCell (p := ⟨y2.heap.size, 1, none⟩) Y2.out.size _).setCell (p := ⟨y2.heap.size, 2, none⟩) Y2.out.size _).setCell (p := ⟨y2.heap.size, 3, none⟩) Y2.out.size _).setCell (p := ⟨y2.heap.size, 4, none⟩) Y2.out.size _)) (set_five Z.out _ _ _ _ _) (fun j _ hne => (five_far y5 (y2.heap.size) (.slice m1 h.node.length c1) (.slice m2 h.dnF.length c2) (.slice m3 h.dn.length c3) (.slice m4 h.upF.length c4) (.slice m5 h.up.length c5)).1 j hne) (own_below X1.out (bb B2.out (bb B3.out (bb B4.out B5.out)))) (own_below X2.out (bb B3.out (bb B4.out B5.out))) (own_below X3.out (bb B4.out B5.out)) (own_below X4.out B5.out) X5.out y1.heap.size y2.heap.size y3.heap.size y4.heap.size ?_ ?_ ?_ ?_ ?_ q2 q3 q4 ?_ ?_ ?_ ?_ ?_
      all_goals intro a e
      · exact (k1 a e).2
      · have := k2 a e; omega
      · have := k3 a e; omega
      · have := k4 a e; omega
      · have := k5 a e; omega
      · have := k1 a e; have kk : (y0.drewN (nq + 1)).heap.size = y0.heap.size := rfl; omega
      · have := k2 a e; have kk : (y0.drewN (nq + 1)).heap.size = y0.heap.size := rfl; omega
      · have := k3 a e; have kk : (y0.drewN (nq + 1)).heap.size = y0.heap.size := rfl; omega
      · have := k4 a e; have kk : (y0.drewN (nq + 1)).heap.size = y0.heap.size := rfl; omega
      · have := k5 a e; have kk : (y0.drewN (nq + 1)).heap.size = y0.heap.size := rfl; omega
    clear X1 X2 X3 X4 X5 L1 L2 L3 L4 L5 Q1 Q2 Q3 Q4 Q5 B1 B2 B3 B4 B5 HQ H1 H2 H3 H4 H5 a0 a1 a2 a3 a4
    generalize (((((y5.setCell ⟨y2.heap.size, 0, none⟩ (.slice m1 h.node.length c1)).setCell ⟨y2.heap.size, 1, none⟩ (.slice m2 h.dnF.length c2)).setCell ⟨y2.heap.size, 2, none⟩ (.slice m3 h.dn.length c3)).setCell ⟨y2.heap.size, 3, none⟩ (.slice m4 h.upF.length c4)).setCell ⟨y2.heap.size, 4, none⟩ (.slice m5 h.up.length c5)) = W6 at *
    generalize y2.heap.size = bb6 at *
    clear Y1 Y2 Y3 Y4 Y5
    obtain ⟨e0, e1, e2, e3, e4⟩ := five_cells hT.out.box
    go_wp2_with fail
    refine (turnC_any m3 c3 h.up.length h.dn.length W0.heap.size h.dn W6 hT.out.r3 HOK.out.2.1 HKD.out.2 HOK.out.2.2.2).mono ?_
    rintro e w7 ⟨rfl, ho7, ht7⟩
    have hT7 : Hid (TB W0 h m1 m2 m3 m4 m5 c1 c2 c3 c4 c5 bb6 (h.dn.map (turnL h.up.length h.dn.length)) h.up w7) := hT.out.three ht7 ho7
    clear ho7 ht7 e0 e1 e2 e3 e4
    obtain ⟨e0, e1, e2, e3, e4⟩ := five_cells hT7.out.box
    go_wp2_with fail
    refine (turnC_any m5 c5 h.up.length h.dn.length W0.heap.size h.up w7 hT7.out.r5 HOK.out.1 HKD.out.1 HOK.out.2.2.1).mono ?_
    rintro e w8 ⟨rfl, ho8, ht8⟩
    have hT8 : Hid (TB W0 h m1 m2 m3 m4 m5 c1 c2 c3 c4 c5 bb6 (h.dn.map (turnL h.up.length h.dn.length)) (h.up.map (turnL h.up.length h.dn.length)) w8) := hT7.out.five ht8 ho8
    clear ho8 ht8 e0 e1 e2 e3 e4
    obtain ⟨e0, e1, e2, e3, e4⟩ := five_cells hT8.out.box
    obtain ⟨g0, g1, g2, g3, g4⟩ := five_cells (HB0.out w8 hT8.out.bel).2
    obtain ⟨f0, f1, f2, f3, f4⟩ := five_free (HB0.out w8 hT8.out.bel).2
    go_wp2
    exact bodyPost_ret (turn_res (set_five (HB0.out w8 hT8.out.bel).2 _ _ _ _ _) rfl rfl) rfl (turn_end HZZ.out HS0.out (HB0.out w8 hT8.out.bel).1 hT8.out)
  · have hT : Hid (TB W0 h m1 m2 m3 m4 m5 c1 c2 c3 c4 c5 (y1.heap.size) h.dn h.up (((((y5.setCell ⟨y1.heap.size, 0, none⟩ (.slice m1 h.node.length c1)).setCell ⟨y1.heap.size, 1, none⟩ (.slice m2 h.dnF.length c2)).setCell ⟨y1.heap.size, 2, none⟩ (.slice m3 h.dn.length c3)).setCell ⟨y1.heap.size, 3, none⟩ (.slice m4 h.upF.length c4)).setCell ⟨y1.heap.size, 4, none⟩ (.slice m5 h.up.length c5))) := by
      have k1 := L1.out; have k2 := L2.out; have k3 := L3.out; have k4 := L4.out; have k5 := L5.out
      have q1 := B1.out.size; have q2 := B2.out.size; have q3 := B3.out.size; have q4 := B4.out.size; have q5 := B5.out.size
      have v1 := Q1.out; have v2 := Q2.out; have v3 := Q3.out; have v4 := Q4.out; have v5 := Q5.out
      (try simp only [World.size_alloc] at k1 k2 k3 k4 k5 v1 v2 v3 v4 v5)
      refine TB.made (y5 := y5) ((((((Y5.out.setCell (p := ⟨y1.heap.size, 0, none⟩) Y1.out.size _).setCell (p := ⟨y1.heap.size, 1, none⟩) Y1.out.size _).setCell (p := ⟨y1.heap.size, 2, none⟩) Y1.out.size _).setCell (p := ⟨y1.heap.size, 3, none⟩) Y1.out.size _).setCell (p := ⟨y1.heap.size, 4, none⟩) Y1.out.size _)) (set_five Z.out _ _ _ _ _) (fun j _ hne => (five_far y5 (y1.heap.size) (.slice m1 h.node.length c1) (.slice m2 h.dnF.length c2) (.slice m3 h.dn.length c3) (.slice m4 h.upF.length c4) (.slice m5 h.up.length c5)).1 j hne) (own_below X1.out (bb B2.out (bb B3.out (bb B4.out B5.out)))) (own_below X2.out (bb B3.out (bb B4.out B5.out))) (own_below X3.out (bb B4.out B5.out)) (own_below X4.out B5.out) X5.out y1.heap.size y2.heap.size y3.heap.size y4.heap.size ?_ ?_ ?_ ?_ ?_ q2 q3 q4 ?_ ?_ ?_ ?_ ?_
      all_goals intro a e
      · exact (k1 a e).2
      · have := k2 a e; omega
      · have := k3 a e; omega
      · have := k4 a e; omega
      · have := k5 a e; omega
      · have := k1 a e; have kk : (y0.drewN (nq + 1)).heap.size = y0.heap.size := rfl; omega
      · have := k2 a e; have kk : (y0.drewN (nq + 1)).heap.size = y0.heap.size := rfl; omega
      · have := k3 a e; have kk : (y0.drewN (nq + 1)).heap.size = y0.heap.size := rfl; omega
      · have := k4 a e; have kk : (y0.drewN (nq + 1)).heap.size = y0.heap.size := rfl; omega
      · have := k5 a e; have kk : (y0.drewN (nq + 1)).heap.size = y0.heap.size := rfl; omega
    clear X1 X2 X3 X4 X5 L1 L2 L3 L4 L5 Q1 Q2 Q3 Q4 Q5 B1 B2 B3 B4 B5 HQ H1 H2 H3 H4 H5 a0 a1 a2 a3 a4
    generalize (((((y5.setCell ⟨y1.heap.size, 0, none⟩ (.slice m1 h.node.length c1)).setCell ⟨y1.heap.size, 1, none⟩ (.slice m2 h.dnF.length c2)).setCell ⟨y1.heap.size, 2, none⟩ (.slice m3 h.dn.length c3)).setCell ⟨y1.heap.size, 3, none⟩ (.slice m4 h.upF.length c4)).setCell ⟨y1.heap.size, 4, none⟩ (.slice m5 h.up.length c5)) = W6 at *
    generalize y1.heap.size = bb6 at *
    clear Y1 Y2 Y3 Y4 Y5
    obtain ⟨e0, e1, e2, e3, e4⟩ := five_cells hT.out.box
    go_wp2_with fail
    refine (turnC_any m3 c3 h.up.length h.dn.length W0.heap.size h.dn W6 hT.out.r3 HOK.out.2.1 HKD.out.2 HOK.out.2.2.2).mono ?_
    rintro e w7 ⟨rfl, ho7, ht7⟩
    have hT7 : Hid (TB W0 h m1 m2 m3 m4 m5 c1 c2 c3 c4 c5 bb6 (h.dn.map (turnL h.up.length h.dn.length)) h.up w7) := hT.out.three ht7 ho7
    clear ho7 ht7 e0 e1 e2 e3 e4
    obtain ⟨e0, e1, e2, e3, e4⟩ := five_cells hT7.out.box
    go_wp2_with fail
    refine (turnC_any m5 c5 h.up.length h.dn.length W0.heap.size h.up w7 hT7.out.r5 HOK.out.1 HKD.out.1 HOK.out.2.2.1).mono ?_
    rintro e w8 ⟨rfl, ho8, ht8⟩
    have hT8 : Hid (TB W0 h m1 m2 m3 m4 m5 c1 c2 c3 c4 c5 bb6 (h.dn.map (turnL h.up.length h.dn.length)) (h.up.map (turnL h.up.length h.dn.length)) w8) := hT7.out.five ht8 ho8
    clear ho8 ht8 e0 e1 e2 e3 e4
    obtain ⟨e0, e1, e2, e3, e4⟩ := five_cells hT8.out.box
    obtain ⟨g0, g1, g2, g3, g4⟩ := five_cells (HB0.out w8 hT8.out.bel).2
    obtain ⟨f0, f1, f2, f3, f4⟩ := five_free (HB0.out w8 hT8.out.bel).2
    go_wp2
    exact bodyPost_ret (turn_res (set_five (HB0.out w8 hT8.out.bel).2 _ _ _ _ _) rfl rfl) rfl (turn_end HZZ.out HS0.out (HB0.out w8 hT8.out.bel).1 hT8.out)
  · have hT : Hid (TB W0 h m1 m2 m3 m4 m5 c1 c2 c3 c4 c5 (y0.heap.size) h.dn h.up (((((y5.setCell ⟨y0.heap.size, 0, none⟩ (.slice m1 h.node.length c1)).setCell ⟨y0.heap.size, 1, none⟩ (.slice m2 h.dnF.length c2)).setCell ⟨y0.heap.size, 2, none⟩ (.slice m3 h.dn.length c3)).setCell ⟨y0.heap.size, 3, none⟩ (.slice m4 h.upF.length c4)).setCell ⟨y0.heap.size, 4, none⟩ (.slice m5 h.up.length c5))) := by
      have k1 := L1.out; have k2 := L2.out; have k3 := L3.out; have k4 := L4.out; have k5 := L5.out
      have q1 := B1.out.size; have q2 := B2.out.size; have q3 := B3.out.size; have q4 := B4.out.size; have q5 := B5.out.size
      have v1 := Q1.out; have v2 := Q2.out; have v3 := Q3.out; have v4 := Q4.out; have v5 := Q5.out
      (try simp only [World.size_alloc] at k1 k2 k3 k4 k5 v1 v2 v3 v4 v5)
      refine TB.made (y5 := y5) ((((((Y5.out.setCell (p := ⟨y0.heap.size, 0, none⟩) Y0.out.size _).setCell (p := ⟨y0.heap.size, 1, none⟩) Y0.out.size _).setCell (p := ⟨y0.heap.size, 2, none⟩) Y0.out.size _).setCell (p := ⟨y0.heap.size, 3, none⟩) Y0.out.size _).setCell (p := ⟨y0.heap.size, 4, none⟩) Y0.out.size _)) (set_five Z.out _ _ _ _ _) (fun j _ hne => (five_far y5 (y0.heap.size) (.slice m1 h.node.length c1) (.slice m2 h.dnF.length c2) (.slice m3 h.dn.length c3) (.slice m4 h.upF.length c4) (.slice m5 h.up.length c5)).1 j hne) (own_below X1.out (bb B2.out (bb B3.out (bb B4.out B5.out)))) (own_below X2.out (bb B3.out (bb B4.out B5.out))) (own_below X3.out (bb B4.out B5.out)) (own_below X4.out B5.out) X5.out y1.heap.size y2.heap.size y3.heap.size y4.heap.size ?_ ?_ ?_ ?_ ?_ q2 q3 q4 ?_ ?_ ?_ ?_ ?_
      all_goals intro a e
      · exact (k1 a e).2
      · have := k2 a e; omega
      · have := k3 a e; omega
      · have := k4 a e; omega
      · have := k5 a e; omega
      · have := k1 a e; have kk : (y0.drewN (nq + 1)).heap.size = y0.heap.size := rfl; omega
      · have := k2 a e; have kk : (y0.drewN (nq + 1)).heap.size = y0.heap.size := rfl; omega
      · have := k3 a e; have kk : (y0.drewN (nq + 1)).heap.size = y0.heap.size := rfl; omega
      · have := k4 a e; have kk : (y0.drewN (nq + 1)).heap.size = y0.heap.size := rfl; omega
      · have := k5 a e; have kk : (y0.drewN (nq + 1)).heap.size = y0.heap.size := rfl; omega
    clear X1 X2 X3 X4 X5 L1 L2 L3 L4 L5 Q1 Q2 Q3 Q4 Q5 B1 B2 B3 B4 B5 HQ H1 H2 H3 H4 H5 a0 a1 a2 a3 a4
    generalize (((((y5.setCell ⟨y0.heap.size, 0, none⟩ (.slice m1 h.node.length c1)).setCell ⟨y0.heap.size, 1, none⟩ (.slice m2 h.dnF.length c2)).setCell ⟨y0.heap.size, 2, none⟩ (.slice m3 h.dn.length c3)).setCell ⟨y0.heap.size, 3, none⟩ (.slice m4 h.upF.length c4)).setCell ⟨y0.heap.size, 4, none⟩ (.slice m5 h.up.length c5)) = W6 at *
    generalize y0.heap.size = bb6 at *
    clear Y1 Y2 Y3 Y4 Y5
    obtain ⟨e0, e1, e2, e3, e4⟩ := five_cells hT.out.box
    go_wp2_with fail
    refine (turnC_any m3 c3 h.up.length h.dn.length W0.heap.size h.dn W6 hT.out.r3 HOK.out.2.1 HKD.out.2 HOK.out.2.2.2).mono ?_
    rintro e w7 ⟨rfl, ho7, ht7⟩
    have hT7 : Hid (TB W0 h m1 m2 m3 m4 m5 c1 c2 c3 c4 c5 bb6 (h.dn.map (turnL h.up.length h.dn.length)) h.up w7) := hT.out.three ht7 ho7
    clear ho7 ht7 e0 e1 e2 e3 e4
    obtain ⟨e0, e1, e2, e3, e4⟩ := five_cells hT7.out.box
    go_wp2_with fail
    refine (turnC_any m5 c5 h.up.length h.dn.length W0.heap.size h.up w7 hT7.out.r5 HOK.out.1 HKD.out.1 HOK.out.2.2.1).mono ?_
    rintro e w8 ⟨rfl, ho8, ht8⟩
    have hT8 : Hid (TB W0 h m1 m2 m3 m4 m5 c1 c2 c3 c4 c5 bb6 (h.dn.map (turnL h.up.length h.dn.length)) (h.up.map (turnL h.up.length h.dn.length)) w8) := hT7.out.five ht8 ho8
    clear ho8 ht8 e0 e1 e2 e3 e4
    obtain ⟨e0, e1, e2, e3, e4⟩ := five_cells hT8.out.box
    obtain ⟨g0, g1, g2, g3, g4⟩ := five_cells (HB0.out w8 hT8.out.bel).2
    obtain ⟨f0, f1, f2, f3, f4⟩ := five_free (HB0.out w8 hT8.out.bel).2
    go_wp2
    exact bodyPost_ret (turn_res (set_five (HB0.out w8 hT8.out.bel).2 _ _ _ _ _) rfl rfl) rfl (turn_end HZZ.out HS0.out (HB0.out w8 hT8.out.bel).1 hT8.out)
end Go.Proofs.Ytkehpmbnbknpfaa.Hi
