/- A finder in memory: its struct, its stamp, its heap and its two rows; what label makes of it. -/
import Derived.Test.YtnkfggccahohpaaDoorHpA
import Derived.Test.YtnkfggccahohpaaDoorStA
import Derived.Test.YtnkfggccahohpaaDoorCsrCk
import Derived.Test.YtnkfggccahohpaaDoorIntRow
namespace Go.Proofs.YtnkfggccahohpaaDoor
open Go.RowKit Go.Extern

attribute [local go_sem] Oper.semAt_some

/-- where a finder's parts lie. -/
structure FL where
  fi : Nat
  sb : Nat
  pb : Nat
  kb : Nat
  ab : Nat
  hb : Nat
  wb : Nat
/-- what a finder knows. -/
structure FS where
  vs : List (Option Int)
  hs : Nat → Int
  ah : Nat → Int
  f : Int → Option Int
def FL.all (L : FL) : List Nat := [L.fi, L.sb, L.pb, L.kb, L.ab, L.hb, L.wb]
structure FL.Apart (L : FL) : Prop where
  a1 : L.fi ≠ L.sb
  a2 : L.fi ≠ L.pb
  a3 : L.fi ≠ L.kb
  a4 : L.fi ≠ L.ab
  a5 : L.fi ≠ L.hb
  a6 : L.fi ≠ L.wb
  b1 : L.sb ≠ L.kb
  b2 : L.sb ≠ L.ab
  b3 : L.sb ≠ L.hb
  b4 : L.sb ≠ L.wb
  c1 : L.pb ≠ L.kb
  c2 : L.pb ≠ L.ab
  c3 : L.pb ≠ L.hb
  c4 : L.pb ≠ L.wb
  d1 : L.kb ≠ L.ab
  d2 : L.kb ≠ L.hb
  d3 : L.kb ≠ L.wb
  e1 : L.ab ≠ L.hb
  e2 : L.ab ≠ L.wb
structure FL.Above (B : Nat) (L : FL) : Prop where
  fi : B ≤ L.fi
  sb : B ≤ L.sb
  pb : B ≤ L.pb
  kb : B ≤ L.kb
  ab : B ≤ L.ab
  hb : B ≤ L.hb
  wb : B ≤ L.wb
structure OwnA (B : Nat) (L : FL) (sv : Value) : Prop where
  fi : sv.ownBlock ≠ some L.fi
  sb : sv.ownBlock ≠ some L.sb
  pb : sv.ownBlock ≠ some L.pb
  kb : sv.ownBlock ≠ some L.kb
  ab : sv.ownBlock ≠ some L.ab
  base : ∀ k, sv.ownBlock = some k → B ≤ k
/-- a finder, above a base. -/
structure Fnd (B : Nat) (w : World) (n : Nat) (L : FL) (c0 c1 c2 sv : Value) (S : FS) : Prop where
  box : w.heap[L.fi]? = some (.cells #[c0, c1, c2, .pointer (some ⟨L.sb, 0, none⟩), .slice (some ⟨L.kb, 0, none⟩) n n, .slice (some ⟨L.ab, 0, none⟩) n n, .pointer (some ⟨L.hb, 0, none⟩)] 108)
  st : St.IsStamp w L.sb L.pb n S.vs
  hp : Hp.IsHeap w L.hb L.wb n sv S.f
  hops : IntRow w L.kb n S.hs
  ahead : IntRow w L.ab n S.ah
  ap : L.Apart
  up : L.Above B
  own : OwnA B L sv

/-- what calls on a finder leave alone. -/
structure Fx (L : FL) (sv sv' : Value) (w w' : World) : Prop where
  os : w'.os = w.os
  tape : w'.tape = w.tape
  output : w'.output = w.output
  size : w.heap.size ≤ w'.heap.size
  block : ∀ k, k < w.heap.size → k ≠ L.sb → k ≠ L.pb → k ≠ L.kb → k ≠ L.ab → k ≠ L.hb → k ≠ L.wb → sv.ownBlock ≠ some k → w'.heap[k]? = w.heap[k]?
  own : ∀ k, k < w.heap.size → sv'.ownBlock = some k → sv.ownBlock = some k
theorem Fx.of_below {L : FL} {sv : Value} {w w' : World} (h : Below w.heap.size w w') : Fx L sv sv w w' := ⟨h.os, h.tape, h.output, h.size, fun k hk _ _ _ _ _ _ _ => h.block k hk, fun _ _ e => e⟩
theorem Fx.trans {L : FL} {sv sv' sv'' : Value} {w w' w'' : World} (h : Fx L sv sv' w w') (k : Fx L sv' sv'' w' w'') : Fx L sv sv'' w w'' :=
  ⟨k.os.trans h.os, k.tape.trans h.tape, k.output.trans h.output, Nat.le_trans h.size k.size, fun j hj h1 h2 h3 h4 h5 h6 h7 => (k.block j (Nat.lt_of_lt_of_le hj h.size) h1 h2 h3 h4 h5 h6 (fun e => h7 (h.own j hj e))).trans (h.block j hj h1 h2 h3 h4 h5 h6 h7), fun j hj e => h.own j hj (k.own j (Nat.lt_of_lt_of_le hj h.size) e)⟩
theorem Fx.ofSt {L : FL} {sv : Value} {w w' : World} (h : St.Fr L.sb L.pb w w') : Fx L sv sv w w' := ⟨h.os, h.tape, h.output, h.size, fun k hk h1 h2 _ _ _ _ _ => h.block k hk h1 h2, fun _ _ e => e⟩
theorem Fx.ofHp {L : FL} {sv sv' : Value} {w w' : World} (h : Hp.Fr L.hb L.wb sv sv' w w') : Fx L sv sv' w w' := ⟨h.os, h.tape, h.output, h.size, fun k hk _ _ _ _ h5 h6 h7 => h.block k hk h5 h6 (fun e => h7 e.symm), h.own⟩
theorem Fx.hop {L : FL} {sv sv' : Value} {w w' : World} (h : Fx L sv sv' w w') (x : Nat) (v : Value) : Fx L sv sv' w (w'.setCell ⟨L.kb, x, none⟩ v) := ⟨h.os, h.tape, h.output, by simpa using h.size, fun k hk h1 h2 h3 h4 h5 h6 h7 => (heap_setCell_other _ _ _ _ h3).trans (h.block k hk h1 h2 h3 h4 h5 h6 h7), h.own⟩
theorem Fx.head {L : FL} {sv sv' : Value} {w w' : World} (h : Fx L sv sv' w w') (x : Nat) (v : Value) : Fx L sv sv' w (w'.setCell ⟨L.ab, x, none⟩ v) := ⟨h.os, h.tape, h.output, by simpa using h.size, fun k hk h1 h2 h3 h4 h5 h6 h7 => (heap_setCell_other _ _ _ _ h4).trans (h.block k hk h1 h2 h3 h4 h5 h6 h7), h.own⟩

section
variable {B : Nat} {w w' : World} {n : Nat} {L : FL} {c0 c1 c2 sv sv' : Value} {S : FS}
theorem Fnd.lts (h : Fnd B w n L c0 c1 c2 sv S) : L.fi < w.heap.size ∧ L.sb < w.heap.size ∧ L.pb < w.heap.size ∧ L.kb < w.heap.size ∧ L.ab < w.heap.size ∧ L.hb < w.heap.size ∧ L.wb < w.heap.size := ⟨lt_of_get h.box, h.st.lt.1, h.st.lt.2.1, h.hops.lt, h.ahead.lt, h.hp.lt.1, h.hp.lt.2.1⟩
theorem Fnd.keep (h : Fnd B w n L c0 c1 c2 sv S) (hk : ∀ k, k < w.heap.size → B ≤ k → w'.heap[k]? = w.heap[k]?) : Fnd B w' n L c0 c1 c2 sv S := by
  obtain ⟨l1, l2, l3, l4, l5, l6, l7⟩ := h.lts
  have u := h.up
  refine ⟨(hk _ l1 u.fi).trans h.box, h.st.keep fun k hl e => hk k hl ?_, h.hp.keep fun k hl e => hk k hl ?_, h.hops.keep (hk _ l4 u.kb), h.ahead.keep (hk _ l5 u.ab), h.ap, h.up, h.own⟩
  · rcases e with rfl | rfl
    · exact u.sb
    · exact u.pb
  · rcases e with rfl | rfl | e
    · exact u.hb
    · exact u.wb
    · exact h.own.base k e
theorem Fnd.below (h : Fnd B w n L c0 c1 c2 sv S) (hb : Below w.heap.size w w') : Fnd B w' n L c0 c1 c2 sv S := h.keep fun k hk _ => hb.block k hk
theorem Fnd.box7 (h : Fnd B w n L c0 c1 c2 sv S) : w.cell? ⟨L.fi, 0, none⟩ = some c0 ∧ w.cell? ⟨L.fi, 1, none⟩ = some c1 ∧ w.cell? ⟨L.fi, 2, none⟩ = some c2 ∧ w.cell? ⟨L.fi, 3, none⟩ = some (.pointer (some ⟨L.sb, 0, none⟩)) ∧ w.cell? ⟨L.fi, 4, none⟩ = some (.slice (some ⟨L.kb, 0, none⟩) n n) ∧ w.cell? ⟨L.fi, 5, none⟩ = some (.slice (some ⟨L.ab, 0, none⟩) n n) ∧ w.cell? ⟨L.fi, 6, none⟩ = some (.pointer (some ⟨L.hb, 0, none⟩)) := by
  simp [World.cell?, h.box]
/-- behind a call on the stamp. -/
theorem Fnd.stamped (h : Fnd B w n L c0 c1 c2 sv S) {vs : List (Option Int)} (hs : St.IsStamp w' L.sb L.pb n vs) (hf : St.Fr L.sb L.pb w w') : Fnd B w' n L c0 c1 c2 sv { S with vs := vs } := by
  obtain ⟨l1, l2, l3, l4, l5, l6, l7⟩ := h.lts
  have a := h.ap
  refine ⟨(hf.block _ l1 a.a1 a.a2).trans h.box, hs, h.hp.keep fun k hl e => hf.block k hl ?_ ?_, h.hops.keep (hf.block _ l4 a.b1.symm a.c1.symm), h.ahead.keep (hf.block _ l5 a.b2.symm a.c2.symm), h.ap, h.up, h.own⟩
  · rcases e with rfl | rfl | e
    · exact a.b3.symm
    · exact a.b4.symm
    · exact fun e' => h.own.sb (e' ▸ e)
  · rcases e with rfl | rfl | e
    · exact a.c3.symm
    · exact a.c4.symm
    · exact fun e' => h.own.pb (e' ▸ e)
theorem Fnd.stBelow (h : Fnd B w n L c0 c1 c2 sv S) (hf : St.Fr L.sb L.pb w w') (hB : B ≤ w.heap.size) : Below B w w' := hf.below hB h.up.sb h.up.pb
/-- behind a call on the heap. -/
theorem Fnd.heaped (h : Fnd B w n L c0 c1 c2 sv S) {f : Int → Option Int} (hs : Hp.IsHeap w' L.hb L.wb n sv' f) (hf : Hp.Fr L.hb L.wb sv sv' w w') (hB : B ≤ w.heap.size) : Fnd B w' n L c0 c1 c2 sv' { S with f := f } := by
  obtain ⟨l1, l2, l3, l4, l5, l6, l7⟩ := h.lts
  have a := h.ap
  have o := h.own
  have bl : ∀ k, k < w.heap.size → k ≠ L.hb → k ≠ L.wb → sv.ownBlock ≠ some k → w'.heap[k]? = w.heap[k]? := fun k hk h1 h2 h3 => hf.block k hk h1 h2 fun e => h3 e.symm
  have ow : ∀ k, k < w.heap.size → sv.ownBlock ≠ some k → sv'.ownBlock ≠ some k := fun k hk h1 e => h1 (hf.own k hk e)
  refine ⟨(bl _ l1 a.a5 a.a6 o.fi).trans h.box, h.st.keep fun k hl e => bl k hl ?_ ?_ ?_, hs, h.hops.keep (bl _ l4 a.d2 a.d3 o.kb), h.ahead.keep (bl _ l5 a.e1 a.e2 o.ab), h.ap, h.up, ⟨ow _ l1 o.fi, ow _ l2 o.sb, ow _ l3 o.pb, ow _ l4 o.kb, ow _ l5 o.ab, fun k hk => ?_⟩⟩
  · rcases e with rfl | rfl
    · exact a.b3
    · exact a.c3
  · rcases e with rfl | rfl
    · exact a.b4
    · exact a.c4
  · rcases e with rfl | rfl
    · exact o.sb
    · exact o.pb
  · rcases Nat.lt_or_ge k w.heap.size with hl | hl
    · exact o.base k (hf.own k hl hk)
    · omega
theorem Fnd.hpBelow (h : Fnd B w n L c0 c1 c2 sv S) (hf : Hp.Fr L.hb L.wb sv sv' w w') (hB : B ≤ w.heap.size) : Below B w w' := hf.below hB h.up.hb h.up.wb h.own.base
/-- a store into the hops. -/
theorem Fnd.hop (h : Fnd B w n L c0 c1 c2 sv S) (x : Nat) (v : Int) : Fnd B (w.setCell ⟨L.kb, x, none⟩ (.int .i64 v)) n L c0 c1 c2 sv { S with hs := fun i => if i = x then v else S.hs i } := by
  have a := h.ap
  have bl : ∀ k, k ≠ L.kb → (w.setCell ⟨L.kb, x, none⟩ (.int .i64 v)).heap[k]? = w.heap[k]? := fun k hk => heap_setCell_other _ _ _ _ hk
  refine ⟨(bl _ a.a3).trans h.box, h.st.keep fun k _ e => bl k ?_, h.hp.keep fun k _ e => bl k ?_, h.hops.set x v, h.ahead.keep (bl _ a.d1.symm), h.ap, h.up, h.own⟩
  · rcases e with rfl | rfl
    · exact a.b1
    · exact a.c1
  · rcases e with rfl | rfl | e
    · exact a.d2.symm
    · exact a.d3.symm
    · exact fun e' => h.own.kb (e' ▸ e)
theorem Fnd.head (h : Fnd B w n L c0 c1 c2 sv S) (x : Nat) (v : Int) : Fnd B (w.setCell ⟨L.ab, x, none⟩ (.int .i64 v)) n L c0 c1 c2 sv { S with ah := fun i => if i = x then v else S.ah i } := by
  have a := h.ap
  have bl : ∀ k, k ≠ L.ab → (w.setCell ⟨L.ab, x, none⟩ (.int .i64 v)).heap[k]? = w.heap[k]? := fun k hk => heap_setCell_other _ _ _ _ hk
  refine ⟨(bl _ a.a4).trans h.box, h.st.keep fun k _ e => bl k ?_, h.hp.keep fun k _ e => bl k ?_, h.hops.keep (bl _ a.d1), h.ahead.set x v, h.ap, h.up, h.own⟩
  · rcases e with rfl | rfl
    · exact a.b2
    · exact a.c2
  · rcases e with rfl | rfl | e
    · exact a.e1.symm
    · exact a.e2.symm
    · exact fun e' => h.own.ab (e' ▸ e)
end

theorem Fx.below {B : Nat} {w w' : World} {n : Nat} {L : FL} {c0 c1 c2 sv sv' : Value} {S : FS} (h : Fnd B w n L c0 c1 c2 sv S) (hf : Fx L sv sv' w w') (hB : B ≤ w.heap.size) : Below B w w' := ⟨hf.os, hf.tape, hf.output, hf.size, fun k hk => hf.block k (by omega) (by have := h.up.sb; omega) (by have := h.up.pb; omega) (by have := h.up.kb; omega) (by have := h.up.ab; omega) (by have := h.up.hb; omega) (by have := h.up.wb; omega) (fun e => by have := h.own.base k e; omega)⟩

/-- a label more. -/
def FS.lab (S : FS) (x : Nat) (d hp ah : Int) : FS := ⟨S.vs.set x (some d), fun i => if i = x then hp else S.hs i, fun i => if i = x then ah else S.ah i, Hp.upd S.f x (some d)⟩

set_option maxRecDepth 100000 in
set_option maxHeartbeats 4000000 in
theorem label_calls {B : Nat} {w : World} {n : Nat} {L : FL} {c0 c1 c2 sv : Value} {S : FS} (h : Fnd B w n L c0 c1 c2 sv S) (hB : B ≤ w.heap.size) (x : Nat) (hx : x < n) (d hp ah : Int) :
    Calls Tryd.prog 57 #[.pointer (some ⟨L.fi, 0, none⟩), .int .i64 x, .int .u64 d, .int .i64 hp, .int .i64 ah] w fun e w' => e = .returned (.tuple #[]) ∧ (∃ sv', Fnd B w' n L c0 c1 c2 sv' (S.lab x d hp ah) ∧ Fx L sv sv' w w') ∧ Below B w w' := by
  have hn : n ≤ 65536 := h.st.lt.2.2.2.2
  have HS : Hid (type_of% (St.set_calls h.st x hx d)) := St.set_calls h.st x hx d
  have HF : Hid (Fnd B w n L c0 c1 c2 sv S) := h
  obtain ⟨k0, k1, k2, k3, k4, k5, k6⟩ := h.box7
  have kl := h.lts.1
  have i1 : (x : Int) < (n : Int) := by omega
  have i2 : (0 : Int) ≤ (x : Int) := by omega
  have i3 : IntKind.u32.wrap (x : Int) = (x : Int) := by rw [IntKind.wrap_u32] <;> omega
  clear h
  go_enter Tryd.func57, Tryd.ntmps57
  go_wp2_with fail
  refine HS.out.mono ?_
  rintro e w1 ⟨rfl, hs, hf⟩
  have F1 : Hid (Fnd B w1 n L c0 c1 c2 sv { S with vs := S.vs.set x (some d) } ∧ Below B w w1) := ⟨HF.out.stamped hs hf, HF.out.stBelow hf hB⟩
  have X1 : Hid (Fx L sv sv w w1) := Fx.ofSt hf
  clear hs hf k0 k1 k2 k3 k4 k5 k6 kl HS
  obtain ⟨k0, k1, k2, k3, k4, k5, k6⟩ := F1.out.1.box7
  have kl := F1.out.1.lts.1
  have q0 := F1.out.1.hops.cell hx
  have q1 := F1.out.1.hops.free x
  have q2 := F1.out.1.lts.2.2.2.1
  have q3 := F1.out.1.ap.a3
  have q4 := F1.out.1.ap.d1
  have q5 := F1.out.1.ahead.cell hx
  have q6 := F1.out.1.ahead.free x
  have q7 := F1.out.1.lts.2.2.2.2.1
  have q8 := F1.out.1.ap.a4
  have F2 : Hid (Fnd B ((w1.setCell ⟨L.kb, x, none⟩ (.int .i64 hp)).setCell ⟨L.ab, x, none⟩ (.int .i64 ah)) n L c0 c1 c2 sv { S with vs := S.vs.set x (some d), hs := fun i => if i = x then hp else S.hs i, ah := fun i => if i = x then ah else S.ah i } ∧ Below B w ((w1.setCell ⟨L.kb, x, none⟩ (.int .i64 hp)).setCell ⟨L.ab, x, none⟩ (.int .i64 ah))) := ⟨(F1.out.1.hop x hp).head x ah, (F1.out.2.setCell F1.out.1.up.kb _).setCell F1.out.1.up.ab _⟩
  have HH : Hid (type_of% (Hp.set_calls F2.out.1.hp x hx d)) := Hp.set_calls F2.out.1.hp x hx d
  go_wp2_with fail
  refine HH.out.mono ?_
  rintro e w2 ⟨rfl, sv', hs, hf⟩
  have hB2 : B ≤ ((w1.setCell ⟨L.kb, x, none⟩ (.int .i64 hp)).setCell ⟨L.ab, x, none⟩ (.int .i64 ah)).heap.size := Nat.le_trans hB F2.out.2.size
  have F3 : Hid ((∃ sv', Fnd B w2 n L c0 c1 c2 sv' (S.lab x d hp ah) ∧ Fx L sv sv' w w2) ∧ Below B w w2) := ⟨⟨sv', F2.out.1.heaped hs hf hB2, ((X1.out.hop x (.int .i64 hp)).head x (.int .i64 ah)).trans (Fx.ofHp hf)⟩, F2.out.2.trans (F2.out.1.hpBelow hf hB2)⟩
  clear hs hf hB2 k0 k1 k2 k3 k4 k5 k6 kl q0 q1 q2 q3 q4 q5 q6 q7 q8
  go_wp2
  go_end0
  exact ⟨rfl, F3.out.1, F3.out.2⟩

/-- is this way to a node shorter than what is known? -/
def FS.better (S : FS) (x : Nat) (d : Int) : Bool := match S.vs[x]? with
  | some (some k) => decide (d < k)
  | some none => true
  | none => false
/-- an arc is looked at. -/
def relax1 (v : Nat) (d h : Int) (S : FS) (a : Int × Int × Int) : FS := if S.better a.2.1.toNat (d + a.2.2) then S.lab a.2.1.toNat (d + a.2.2) (h + 1) v else S
/-- the arcs of a node. -/
def arcRow (zs : List (Int × Int × Int)) (i j : Nat) : List (Int × Int × Int) := (zs.take j).drop i
theorem arcRow_next {zs : List (Int × Int × Int)} {i j : Nat} {a : Int × Int × Int} (hij : i ≤ j) (ha : zs[j]? = some a) : arcRow zs i (j + 1) = arcRow zs i j ++ [a] := by
  have hl := (List.getElem?_eq_some_iff.1 ha).1
  unfold arcRow
  rw [List.take_add_one, ha, List.drop_append_of_le_length (by rw [List.length_take]; omega)]
  rfl
theorem relax_hs {v : Nat} {d h : Int} {S : FS} {a : Int × Int × Int} (hS : S.hs v = h) (hne : a.2.1.toNat ≠ v) : (relax1 v d h S a).hs v = h := by
  unfold relax1
  split
  · show (if v = a.2.1.toNat then h + 1 else S.hs v) = h
    rw [if_neg (Ne.symm hne)]
    exact hS
  · exact hS

set_option maxRecDepth 100000 in
set_option maxHeartbeats 4000000 in
theorem lookFrom_calls {B : Nat} {w : World} {n : Nat} {L : FL} {fo uo wo : Option Addr} {fc tc wc : Nat} {zs : List (Int × Int × Int)} {sv : Value} {S : FS} (hF : Fnd B w n L (.slice fo (n + 1) fc) (.slice uo zs.length tc) (.slice wo zs.length wc) sv S) (hB : B ≤ w.heap.size) (hz : Fine n zs) (hC : ∀ wx, Below B w wx → CsrIn wx n zs fo uo wo fc tc wc) (v : Nat) (hv : v < n) (d h : Int) (hd : 0 ≤ d) (hd2 : d ≤ 140737488355328) (hh : S.hs v = h) (hh1 : 0 ≤ h) (hh2 : h ≤ 1000000) :
    Calls Tryd.prog 60 #[.pointer (some ⟨L.fi, 0, none⟩), .int .i64 v, .int .u64 d] w fun e w' => e = .returned (.tuple #[]) ∧ (∃ sv', Fnd B w' n L (.slice fo (n + 1) fc) (.slice uo zs.length tc) (.slice wo zs.length wc) sv' ((arcRow zs (firstAt zs v) (firstAt zs (v + 1))).foldl (relax1 v d h) S) ∧ Fx L sv sv' w w') ∧ Below B w w' := by
  have hn := hz.few
  have hm := hz.short
  obtain ⟨fb, fof, rfl, _, _⟩ := (hC w (Below.refl _ _)).first
  have HC : Hid (∀ wx, Below B w wx → (∀ u, u ≤ n → wx.cell? ⟨fb, fof + u, none⟩ = some (.int .i64 (firstAt zs u))) ∧ fb < wx.heap.size) := fun wx hb => by
    obtain ⟨b, o, e, hl, hc⟩ := (hC wx hb).first
    cases e
    exact ⟨hc, hl⟩
  have HA : Hid (∀ (k : Nat) (a : Int × Int × Int), zs[k]? = some a → ∃ tb tof wb wof, uo = some ⟨tb, tof, none⟩ ∧ wo = some ⟨wb, wof, none⟩ ∧ ∀ wx, Below B w wx → wx.cell? ⟨tb, tof + k, none⟩ = some (.int .i64 a.2.1) ∧ wx.cell? ⟨wb, wof + k, none⟩ = some (.int .i64 a.2.2) ∧ tb < wx.heap.size ∧ wb < wx.heap.size) := fun k a ha => by
    have hl := (List.getElem?_eq_some_iff.1 ha).1
    obtain ⟨tb, tof, wb, wof, e1, e2, _⟩ := (hC w (Below.refl _ _)).arc (by omega)
    refine ⟨tb, tof, wb, wof, e1, e2, fun wx hb => ?_⟩
    obtain ⟨tb', tof', wb', wof', e1', e2', l1, l2, hc⟩ := (hC wx hb).arc (by omega)
    rw [e1] at e1'
    rw [e2] at e2'
    cases e1'
    cases e2'
    exact ⟨(hc k a ha).1, (hc k a ha).2, l1, l2⟩
  have HZ : Hid (Fine n zs) := hz
  have HF0 : Hid (Fnd B w n L (.slice (some ⟨fb, fof, none⟩) (n + 1) fc) (.slice uo zs.length tc) (.slice wo zs.length wc) sv S) := hF
  have hxy : firstAt zs v ≤ firstAt zs (v + 1) := firstAt_mono zs (by omega)
  have hyl := firstAt_le zs (v + 1)
  obtain ⟨i0, hi0⟩ : ∃ i0, firstAt zs v = i0 := ⟨_, rfl⟩
  obtain ⟨j0, hj0⟩ : ∃ j0, firstAt zs (v + 1) = j0 := ⟨_, rfl⟩
  have HIJ : Hid (firstAt zs v = i0 ∧ firstAt zs (v + 1) = j0) := ⟨hi0, hj0⟩
  rw [hi0, hj0] at hxy ⊢
  rw [hj0] at hyl
  obtain ⟨k0, k1, k2, k3, k4, k5, k6⟩ := hF.box7
  have kl := hF.lts.1
  have c0 : w.cell? ⟨fb, fof + v, none⟩ = some (.int .i64 i0) := by rw [← hi0]; exact (HC.out w (Below.refl _ _)).1 v (by omega)
  have cl := (HC.out w (Below.refl _ _)).2
  have e1 : (v : Int) < (n : Int) + 1 := by omega
  have e2 : (v : Int) + 1 < (n : Int) + 1 := by omega
  have e3 : (0 : Int) ≤ (v : Int) := by omega
  have e4 : (0 : Int) ≤ (v : Int) + 1 := by omega
  have e5 : IntKind.i64.wrap ((v : Int) + 1) = (v : Int) + 1 := by rw [IntKind.wrap_i64] <;> omega
  have e6 : (v : Int) < (n : Int) := by omega
  have HH : Hid (S.hs v = h) := hh
  clear hF hC hz hi0 hj0 hh
  go_enter Tryd.func60, Tryd.ntmps60
  go_wp2_with fail
  clear k0 k1 k2 k3 k4 k5 k6 kl c0 cl
  go_loopw [6] (fun iv wr => ∃ k : Nat, i0 ≤ k ∧ k ≤ j0 ∧ iv = .int .i64 k ∧ (∃ sv', Fnd B wr n L (.slice (some ⟨fb, fof, none⟩) (n + 1) fc) (.slice uo zs.length tc) (.slice wo zs.length wc) sv' ((arcRow zs i0 k).foldl (relax1 v d h) S) ∧ Fx L sv sv' w wr) ∧ ((arcRow zs i0 k).foldl (relax1 v d h) S).hs v = h ∧ Below B w wr) (fun iv _ => j0 - (intOf iv).toNat)
  case atStart => exact ⟨i0, Nat.le_refl _, hxy, rfl, ⟨sv, by rw [show arcRow zs i0 i0 = [] by unfold arcRow; rw [List.drop_eq_nil_iff]; simp; omega]; exact HF0.out, Fx.of_below (Below.refl _ _)⟩, by rw [show arcRow zs i0 i0 = [] by unfold arcRow; rw [List.drop_eq_nil_iff]; simp; omega]; exact HH.out, Below.refl _ _⟩
  case round =>
    obtain ⟨k, hk1, hk2, rfl, ⟨sv1, hF1, hX1⟩, hSh, hb⟩ := hrel
    have HX1 : Hid (Fx L sv sv1 w wr) := hX1
    clear hX1
    obtain ⟨Sk, hSk⟩ : ∃ Sk, (arcRow zs i0 k).foldl (relax1 v d h) S = Sk := ⟨_, rfl⟩
    have HSK : Hid ((arcRow zs i0 k).foldl (relax1 v d h) S = Sk) := hSk
    rw [hSk] at hF1 hSh
    have HF1 : Hid (Fnd B wr n L (.slice (some ⟨fb, fof, none⟩) (n + 1) fc) (.slice uo zs.length tc) (.slice wo zs.length wc) sv1 Sk) := hF1
    have HB1 : Hid (Below B w wr) := hb
    have HSH : Hid (Sk.hs v = h) := hSh
    obtain ⟨k0, _, _, k3, k4, k5, k6⟩ := hF1.box7
    have k1 : wr.cell? ⟨L.fi, 1, none⟩ = some (.slice uo zs.length tc) := hF1.box7.2.1
    have k2 : wr.cell? ⟨L.fi, 2, none⟩ = some (.slice wo zs.length wc) := hF1.box7.2.2.1
    have kl := hF1.lts.1
    have c1 : wr.cell? ⟨fb, fof + (v + 1), none⟩ = some (.int .i64 j0) := by rw [← HIJ.out.2]; exact (HC.out wr hb).1 (v + 1) (by omega)
    have cl := (HC.out wr hb).2
    have q0 := hF1.hops.cell hv
    have ql := hF1.lts.2.2.2.1
    rw [hSh] at q0
    by_cases hlt : k < j0
    · obtain ⟨a, ha⟩ : ∃ a, zs[k]? = some a := ⟨zs[k], List.getElem?_eq_getElem (by omega)⟩
      obtain ⟨tb, tof, wb, wof, rfl, rfl, hcell⟩ := HA.out k a ha
      obtain ⟨t0, t1, t2, t3⟩ := hcell wr hb
      have hends := HZ.out.ends a (List.mem_of_getElem? ha)
      obtain ⟨u, hu⟩ : ∃ u : Nat, a.2.1 = (u : Int) := ⟨a.2.1.toNat, by omega⟩
      obtain ⟨r, hr⟩ : ∃ r, a.2.2 = r := ⟨_, rfl⟩
      have hun : u < n := by omega
      have hav : a.1 = (v : Int) := HZ.out.row ha (by rw [HIJ.out.1]; exact hk1) (by rw [HIJ.out.2]; exact hlt)
      have huv : u ≠ v := by omega
      rw [hu] at t0
      rw [hr] at t1
      have r0 : 0 ≤ r := by omega
      have r1 : r ≤ 2147483647 := by omega
      have HNX : Hid ((arcRow zs i0 (k + 1)).foldl (relax1 v d h) S = if Sk.better u (d + r) then Sk.lab u (d + r) (h + 1) v else Sk) := by
        show _ = _
        rw [arcRow_next hk1 ha, List.foldl_append, HSK.out]
        show relax1 v d h Sk a = _
        unfold relax1
        rw [hu, hr, Int.toNat_natCast]
      have s1 : IntKind.u64.wrap r = r := by rw [IntKind.wrap_u64] <;> omega
      have s2 : IntKind.u64.wrap (d + r) = d + r := by rw [IntKind.wrap_u64] <;> omega
      have s3 : (k : Int) < (zs.length : Int) := by omega
      have s4 : (0 : Int) ≤ (k : Int) := by omega
      have s5 : (k : Int) < (j0 : Int) := by omega
      have s6 : IntKind.i64.wrap (h + 1) = h + 1 := by rw [IntKind.wrap_i64] <;> omega
      obtain ⟨o, ho⟩ : ∃ o, Sk.vs[u]? = some o := ⟨Sk.vs[u]'(by rw [hF1.st.lt.2.2.2.1]; exact hun), List.getElem?_eq_getElem _⟩
      have HO : Hid (Sk.vs[u]? = some o) := ho
      have HUV : Hid (u ≠ v ∧ u < n) := ⟨huv, hun⟩
      clear hF1 hSh hb hSk ha hcell hends hu hr hav huv ho
      go_wp2_with fail
      go_quiet (fail)
      have F2 : Hid (Fnd B (wr.drewN nq) n L (.slice (some ⟨fb, fof, none⟩) (n + 1) fc) (.slice (some ⟨tb, tof, none⟩) zs.length tc) (.slice (some ⟨wb, wof, none⟩) zs.length wc) sv1 Sk ∧ Below B w (wr.drewN nq)) := ⟨HF1.out.keep fun _ _ _ => rfl, below_drewN HB1.out nq⟩
      have X2 : Hid (Fx L sv sv1 w (wr.drewN nq)) := HX1.out.trans (Fx.of_below (below_drewN (Below.refl _ _) nq))
      generalize hw2 : wr.drewN nq = w2 at *
      clear hw2 k0 k1 k2 k3 k4 k5 k6 kl q0 ql t0 t1 t2 t3 c1 cl
      have k3 : w2.cell? ⟨L.fi, 3, none⟩ = some (.pointer (some ⟨L.sb, 0, none⟩)) := F2.out.1.box7.2.2.2.1
      have kl := F2.out.1.lts.1
      have hB2 : B ≤ w2.heap.size := Nat.le_trans hB F2.out.2.size
      go_wp2_with fail
      refine (St.get_in F2.out.1.st u o HO.out).mono ?_
      rintro e w3 ⟨rfl, hb3⟩
      have F3 : Hid (Fnd B w3 n L (.slice (some ⟨fb, fof, none⟩) (n + 1) fc) (.slice (some ⟨tb, tof, none⟩) zs.length tc) (.slice (some ⟨wb, wof, none⟩) zs.length wc) sv1 Sk ∧ Below B w w3) := ⟨F2.out.1.below hb3, F2.out.2.trans (hb3.mono hB2)⟩
      have X3 : Hid (Fx L sv sv1 w w3) := X2.out.trans (Fx.of_below hb3)
      have HB3 : Hid (B ≤ w3.heap.size) := Nat.le_trans hB2 hb3.size
      clear hb3 k3 kl F2 hB2 HB1 HF1
      cases o with
      | none =>
        simp only [St.gotV]
        have hF3 := F3.out.1
        obtain ⟨k0, _, _, k3, k4, k5, k6⟩ := hF3.box7
        have k1 : w3.cell? ⟨L.fi, 1, none⟩ = some (.slice (some ⟨tb, tof, none⟩) zs.length tc) := hF3.box7.2.1
        have k2 : w3.cell? ⟨L.fi, 2, none⟩ = some (.slice (some ⟨wb, wof, none⟩) zs.length wc) := hF3.box7.2.2.1
        have kl := hF3.lts.1
        have q0 := hF3.hops.cell hv
        have ql := hF3.lts.2.2.2.1
        rw [HSH.out] at q0
        have HLB : Hid (type_of% (label_calls hF3 HB3.out u HUV.out.2 (d + r) (h + 1) v)) := label_calls hF3 HB3.out u HUV.out.2 (d + r) (h + 1) v
        clear hF3
        go_wp2_with fail
        refine HLB.out.mono ?_
        rintro e w4 ⟨rfl, ⟨sv4, hF4, hX4⟩, hb4⟩
        have F4 : Hid (Fnd B w4 n L (.slice (some ⟨fb, fof, none⟩) (n + 1) fc) (.slice (some ⟨tb, tof, none⟩) zs.length tc) (.slice (some ⟨wb, wof, none⟩) zs.length wc) sv4 (Sk.lab u (d + r) (h + 1) v) ∧ Below B w w4) := ⟨hF4, F3.out.2.trans hb4⟩
        have X4 : Hid (Fx L sv sv4 w w4) := X3.out.trans hX4
        clear hF4 hX4 hb4 k0 k1 k2 k3 k4 k5 k6 kl q0 ql
        go_wp2
        go_roundw
        case rel => exact ⟨k + 1, by omega, by omega, by go_num, ⟨sv4, by rw [HNX.out, if_pos (by unfold FS.better; rw [HO.out])]; exact F4.out.1, X4.out⟩, by rw [HNX.out, if_pos (by unfold FS.better; rw [HO.out])]; show (if v = u then h + 1 else Sk.hs v) = h; rw [if_neg (Ne.symm HUV.out.1)]; exact HSH.out, F4.out.2⟩
        case measure => simp [intOf]; omega
      | some kd =>
        simp only [St.gotV]
        by_cases hbt : d + r < kd
        · have HBT : Hid (d + r < kd) := hbt
          have hF3 := F3.out.1
          obtain ⟨k0, _, _, k3, k4, k5, k6⟩ := hF3.box7
          have k1 : w3.cell? ⟨L.fi, 1, none⟩ = some (.slice (some ⟨tb, tof, none⟩) zs.length tc) := hF3.box7.2.1
          have k2 : w3.cell? ⟨L.fi, 2, none⟩ = some (.slice (some ⟨wb, wof, none⟩) zs.length wc) := hF3.box7.2.2.1
          have kl := hF3.lts.1
          have q0 := hF3.hops.cell hv
          have ql := hF3.lts.2.2.2.1
          rw [HSH.out] at q0
          have HLB : Hid (type_of% (label_calls hF3 HB3.out u HUV.out.2 (d + r) (h + 1) v)) := label_calls hF3 HB3.out u HUV.out.2 (d + r) (h + 1) v
          clear hF3
          go_wp2_with fail
          refine HLB.out.mono ?_
          rintro e w4 ⟨rfl, ⟨sv4, hF4, hX4⟩, hb4⟩
          have F4 : Hid (Fnd B w4 n L (.slice (some ⟨fb, fof, none⟩) (n + 1) fc) (.slice (some ⟨tb, tof, none⟩) zs.length tc) (.slice (some ⟨wb, wof, none⟩) zs.length wc) sv4 (Sk.lab u (d + r) (h + 1) v) ∧ Below B w w4) := ⟨hF4, F3.out.2.trans hb4⟩
          have X4 : Hid (Fx L sv sv4 w w4) := X3.out.trans hX4
          clear hF4 hX4 hb4 k0 k1 k2 k3 k4 k5 k6 kl q0 ql
          go_wp2
          go_roundw
          case rel => exact ⟨k + 1, by omega, by omega, by go_num, ⟨sv4, by rw [HNX.out, if_pos (by unfold FS.better; rw [HO.out]; exact decide_eq_true HBT.out)]; exact F4.out.1, X4.out⟩, by rw [HNX.out, if_pos (by unfold FS.better; rw [HO.out]; exact decide_eq_true HBT.out)]; show (if v = u then h + 1 else Sk.hs v) = h; rw [if_neg (Ne.symm HUV.out.1)]; exact HSH.out, F4.out.2⟩
          case measure => simp [intOf]; omega
        · have HBT : Hid (¬ d + r < kd) := hbt
          go_wp2
          go_roundw
          case rel => exact ⟨k + 1, by omega, by omega, by go_num, ⟨sv1, by rw [HNX.out, if_neg (by unfold FS.better; rw [HO.out]; simp [HBT.out])]; exact F3.out.1, X3.out⟩, by rw [HNX.out, if_neg (by unfold FS.better; rw [HO.out]; simp [HBT.out])]; exact HSH.out, F3.out.2⟩
          case measure => simp [intOf]; omega
    · obtain rfl : k = j0 := by omega
      have F3 : Hid ((∃ sv', Fnd B wr n L (.slice (some ⟨fb, fof, none⟩) (n + 1) fc) (.slice uo zs.length tc) (.slice wo zs.length wc) sv' ((arcRow zs i0 k).foldl (relax1 v d h) S) ∧ Fx L sv sv' w wr) ∧ Below B w wr) := ⟨⟨sv1, by rw [HSK.out]; exact HF1.out, HX1.out⟩, HB1.out⟩
      clear hF1 hSh hb hSk
      go_wp2
      go_end0
      exact ⟨rfl, F3.out.1, F3.out.2⟩
end Go.Proofs.YtnkfggccahohpaaDoor
