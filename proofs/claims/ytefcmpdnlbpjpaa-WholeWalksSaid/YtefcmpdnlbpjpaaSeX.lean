/- A finder in memory: its struct, its stamp, its heap and its two rows; what label makes of it. What the search knows, step by step: labels are lengths of walks, what is settled stays, and at the end all is the least. search's run: so many steps, and why it ends. -/
import Derived.Test.YtefcmpdnlbpjpaaHpA
import Derived.Test.YtefcmpdnlbpjpaaStA
import Derived.Test.YtefcmpdnlbpjpaaCsrY
import Derived.Test.YtefcmpdnlbpjpaaIntRow
namespace Go.Proofs.Ytefcmpdnlbpjpaa
open Go.RowKit Go.Extern

attribute [local go_sem] Oper.semAt_some

/-- where a finder's parts lie. -/
structure FL where
  fi : Nat
  sb : Nat
  pb : Nat
  kb : Nat
  ab : Nat
  hb : Nat
  wb : Nat
/-- what a finder knows. -/
structure FS where
  vs : List (Option Int)
  hs : Nat → Int
  ah : Nat → Int
  f : Int → Option Int
def FL.all (L : FL) : List Nat := [L.fi, L.sb, L.pb, L.kb, L.ab, L.hb, L.wb]
structure FL.Apart (L : FL) : Prop where
  a1 : L.fi ≠ L.sb
  a2 : L.fi ≠ L.pb
  a3 : L.fi ≠ L.kb
  a4 : L.fi ≠ L.ab
  a5 : L.fi ≠ L.hb
  a6 : L.fi ≠ L.wb
  b1 : L.sb ≠ L.kb
  b2 : L.sb ≠ L.ab
  b3 : L.sb ≠ L.hb
  b4 : L.sb ≠ L.wb
  c1 : L.pb ≠ L.kb
  c2 : L.pb ≠ L.ab
  c3 : L.pb ≠ L.hb
  c4 : L.pb ≠ L.wb
  d1 : L.kb ≠ L.ab
  d2 : L.kb ≠ L.hb
  d3 : L.kb ≠ L.wb
  e1 : L.ab ≠ L.hb
  e2 : L.ab ≠ L.wb
structure FL.Above (B : Nat) (L : FL) : Prop where
  fi : B ≤ L.fi
  sb : B ≤ L.sb
  pb : B ≤ L.pb
  kb : B ≤ L.kb
  ab : B ≤ L.ab
  hb : B ≤ L.hb
  wb : B ≤ L.wb
structure OwnA (B : Nat) (L : FL) (sv : Value) : Prop where
  fi : sv.ownBlock ≠ some L.fi
  sb : sv.ownBlock ≠ some L.sb
  pb : sv.ownBlock ≠ some L.pb
  kb : sv.ownBlock ≠ some L.kb
  ab : sv.ownBlock ≠ some L.ab
  base : ∀ k, sv.ownBlock = some k → B ≤ k
/-- a finder, above a base. -/
structure Fnd (B : Nat) (w : World) (n : Nat) (L : FL) (c0 c1 c2 sv : Value) (S : FS) : Prop where
  box : w.heap[L.fi]? = some (.cells #[c0, c1, c2, .pointer (some ⟨L.sb, 0, none⟩), .slice (some ⟨L.kb, 0, none⟩) n n, .slice (some ⟨L.ab, 0, none⟩) n n, .pointer (some ⟨L.hb, 0, none⟩)] 73)
  st : St.IsStamp w L.sb L.pb n S.vs
  hp : Hp.IsHeap w L.hb L.wb n sv S.f
  hops : IntRow w L.kb n S.hs
  ahead : IntRow w L.ab n S.ah
  ap : L.Apart
  up : L.Above B
  own : OwnA B L sv

/-- what calls on a finder leave alone. -/
structure Fx (L : FL) (sv sv' : Value) (w w' : World) : Prop where
  os : w'.os = w.os
  tape : w'.tape = w.tape
  output : w'.output = w.output
  size : w.heap.size ≤ w'.heap.size
  block : ∀ k, k < w.heap.size → k ≠ L.sb → k ≠ L.pb → k ≠ L.kb → k ≠ L.ab → k ≠ L.hb → k ≠ L.wb → sv.ownBlock ≠ some k → w'.heap[k]? = w.heap[k]?
  own : ∀ k, k < w.heap.size → sv'.ownBlock = some k → sv.ownBlock = some k
theorem Fx.of_below {L : FL} {sv : Value} {w w' : World} (h : Below w.heap.size w w') : Fx L sv sv w w' := ⟨h.os, h.tape, h.output, h.size, fun k hk _ _ _ _ _ _ _ => h.block k hk, fun _ _ e => e⟩
theorem Fx.trans {L : FL} {sv sv' sv'' : Value} {w w' w'' : World} (h : Fx L sv sv' w w') (k : Fx L sv' sv'' w' w'') : Fx L sv sv'' w w'' :=
  ⟨k.os.trans h.os, k.tape.trans h.tape, k.output.trans h.output, Nat.le_trans h.size k.size, fun j hj h1 h2 h3 h4 h5 h6 h7 => (k.block j (Nat.lt_of_lt_of_le hj h.size) h1 h2 h3 h4 h5 h6 (fun e => h7 (h.own j hj e))).trans (h.block j hj h1 h2 h3 h4 h5 h6 h7), fun j hj e => h.own j hj (k.own j (Nat.lt_of_lt_of_le hj h.size) e)⟩
theorem Fx.ofSt {L : FL} {sv : Value} {w w' : World} (h : St.Fr L.sb L.pb w w') : Fx L sv sv w w' := ⟨h.os, h.tape, h.output, h.size, fun k hk h1 h2 _ _ _ _ _ => h.block k hk h1 h2, fun _ _ e => e⟩
theorem Fx.ofHp {L : FL} {sv sv' : Value} {w w' : World} (h : Hp.Fr L.hb L.wb sv sv' w w') : Fx L sv sv' w w' := ⟨h.os, h.tape, h.output, h.size, fun k hk _ _ _ _ h5 h6 h7 => h.block k hk h5 h6 (fun e => h7 e.symm), h.own⟩
theorem Fx.hop {L : FL} {sv sv' : Value} {w w' : World} (h : Fx L sv sv' w w') (x : Nat) (v : Value) : Fx L sv sv' w (w'.setCell ⟨L.kb, x, none⟩ v) := ⟨h.os, h.tape, h.output, by simpa using h.size, fun k hk h1 h2 h3 h4 h5 h6 h7 => (heap_setCell_other _ _ _ _ h3).trans (h.block k hk h1 h2 h3 h4 h5 h6 h7), h.own⟩
theorem Fx.head {L : FL} {sv sv' : Value} {w w' : World} (h : Fx L sv sv' w w') (x : Nat) (v : Value) : Fx L sv sv' w (w'.setCell ⟨L.ab, x, none⟩ v) := ⟨h.os, h.tape, h.output, by simpa using h.size, fun k hk h1 h2 h3 h4 h5 h6 h7 => (heap_setCell_other _ _ _ _ h4).trans (h.block k hk h1 h2 h3 h4 h5 h6 h7), h.own⟩

section
variable {B : Nat} {w w' : World} {n : Nat} {L : FL} {c0 c1 c2 sv sv' : Value} {S : FS}
theorem Fnd.lts (h : Fnd B w n L c0 c1 c2 sv S) : L.fi < w.heap.size ∧ L.sb < w.heap.size ∧ L.pb < w.heap.size ∧ L.kb < w.heap.size ∧ L.ab < w.heap.size ∧ L.hb < w.heap.size ∧ L.wb < w.heap.size := ⟨lt_of_get h.box, h.st.lt.1, h.st.lt.2.1, h.hops.lt, h.ahead.lt, h.hp.lt.1, h.hp.lt.2.1⟩
theorem Fnd.keep (h : Fnd B w n L c0 c1 c2 sv S) (hk : ∀ k, k < w.heap.size → B ≤ k → w'.heap[k]? = w.heap[k]?) : Fnd B w' n L c0 c1 c2 sv S := by
  obtain ⟨l1, l2, l3, l4, l5, l6, l7⟩ := h.lts
  have u := h.up
  refine ⟨(hk _ l1 u.fi).trans h.box, h.st.keep fun k hl e => hk k hl ?_, h.hp.keep fun k hl e => hk k hl ?_, h.hops.keep (hk _ l4 u.kb), h.ahead.keep (hk _ l5 u.ab), h.ap, h.up, h.own⟩
  · rcases e with rfl | rfl
    · exact u.sb
    · exact u.pb
  · rcases e with rfl | rfl | e
    · exact u.hb
    · exact u.wb
    · exact h.own.base k e
theorem Fnd.below (h : Fnd B w n L c0 c1 c2 sv S) (hb : Below w.heap.size w w') : Fnd B w' n L c0 c1 c2 sv S := h.keep fun k hk _ => hb.block k hk
theorem Fnd.box7 (h : Fnd B w n L c0 c1 c2 sv S) : w.cell? ⟨L.fi, 0, none⟩ = some c0 ∧ w.cell? ⟨L.fi, 1, none⟩ = some c1 ∧ w.cell? ⟨L.fi, 2, none⟩ = some c2 ∧ w.cell? ⟨L.fi, 3, none⟩ = some (.pointer (some ⟨L.sb, 0, none⟩)) ∧ w.cell? ⟨L.fi, 4, none⟩ = some (.slice (some ⟨L.kb, 0, none⟩) n n) ∧ w.cell? ⟨L.fi, 5, none⟩ = some (.slice (some ⟨L.ab, 0, none⟩) n n) ∧ w.cell? ⟨L.fi, 6, none⟩ = some (.pointer (some ⟨L.hb, 0, none⟩)) := by
  simp [World.cell?, h.box]
/-- behind a call on the stamp. -/
theorem Fnd.stamped (h : Fnd B w n L c0 c1 c2 sv S) {vs : List (Option Int)} (hs : St.IsStamp w' L.sb L.pb n vs) (hf : St.Fr L.sb L.pb w w') : Fnd B w' n L c0 c1 c2 sv { S with vs := vs } := by
  obtain ⟨l1, l2, l3, l4, l5, l6, l7⟩ := h.lts
  have a := h.ap
  refine ⟨(hf.block _ l1 a.a1 a.a2).trans h.box, hs, h.hp.keep fun k hl e => hf.block k hl ?_ ?_, h.hops.keep (hf.block _ l4 a.b1.symm a.c1.symm), h.ahead.keep (hf.block _ l5 a.b2.symm a.c2.symm), h.ap, h.up, h.own⟩
  · rcases e with rfl | rfl | e
    · exact a.b3.symm
    · exact a.b4.symm
    · exact fun e' => h.own.sb (e' ▸ e)
  · rcases e with rfl | rfl | e
    · exact a.c3.symm
    · exact a.c4.symm
    · exact fun e' => h.own.pb (e' ▸ e)
theorem Fnd.stBelow (h : Fnd B w n L c0 c1 c2 sv S) (hf : St.Fr L.sb L.pb w w') (hB : B ≤ w.heap.size) : Below B w w' := hf.below hB h.up.sb h.up.pb
/-- behind a call on the heap. -/
theorem Fnd.heaped (h : Fnd B w n L c0 c1 c2 sv S) {f : Int → Option Int} (hs : Hp.IsHeap w' L.hb L.wb n sv' f) (hf : Hp.Fr L.hb L.wb sv sv' w w') (hB : B ≤ w.heap.size) : Fnd B w' n L c0 c1 c2 sv' { S with f := f } := by
  obtain ⟨l1, l2, l3, l4, l5, l6, l7⟩ := h.lts
  have a := h.ap
  have o := h.own
  have bl : ∀ k, k < w.heap.size → k ≠ L.hb → k ≠ L.wb → sv.ownBlock ≠ some k → w'.heap[k]? = w.heap[k]? := fun k hk h1 h2 h3 => hf.block k hk h1 h2 fun e => h3 e.symm
  have ow : ∀ k, k < w.heap.size → sv.ownBlock ≠ some k → sv'.ownBlock ≠ some k := fun k hk h1 e => h1 (hf.own k hk e)
  refine ⟨(bl _ l1 a.a5 a.a6 o.fi).trans h.box, h.st.keep fun k hl e => bl k hl ?_ ?_ ?_, hs, h.hops.keep (bl _ l4 a.d2 a.d3 o.kb), h.ahead.keep (bl _ l5 a.e1 a.e2 o.ab), h.ap, h.up, ⟨ow _ l1 o.fi, ow _ l2 o.sb, ow _ l3 o.pb, ow _ l4 o.kb, ow _ l5 o.ab, fun k hk => ?_⟩⟩
  · rcases e with rfl | rfl
    · exact a.b3
    · exact a.c3
  · rcases e with rfl | rfl
    · exact a.b4
    · exact a.c4
  · rcases e with rfl | rfl
    · exact o.sb
    · exact o.pb
  · rcases Nat.lt_or_ge k w.heap.size with hl | hl
    · exact o.base k (hf.own k hl hk)
    · omega
theorem Fnd.hpBelow (h : Fnd B w n L c0 c1 c2 sv S) (hf : Hp.Fr L.hb L.wb sv sv' w w') (hB : B ≤ w.heap.size) : Below B w w' := hf.below hB h.up.hb h.up.wb h.own.base
/-- a store into the hops. -/
theorem Fnd.hop (h : Fnd B w n L c0 c1 c2 sv S) (x : Nat) (v : Int) : Fnd B (w.setCell ⟨L.kb, x, none⟩ (.int .i64 v)) n L c0 c1 c2 sv { S with hs := fun i => if i = x then v else S.hs i } := by
  have a := h.ap
  have bl : ∀ k, k ≠ L.kb → (w.setCell ⟨L.kb, x, none⟩ (.int .i64 v)).heap[k]? = w.heap[k]? := fun k hk => heap_setCell_other _ _ _ _ hk
  refine ⟨(bl _ a.a3).trans h.box, h.st.keep fun k _ e => bl k ?_, h.hp.keep fun k _ e => bl k ?_, h.hops.set x v, h.ahead.keep (bl _ a.d1.symm), h.ap, h.up, h.own⟩
  · rcases e with rfl | rfl
    · exact a.b1
    · exact a.c1
  · rcases e with rfl | rfl | e
    · exact a.d2.symm
    · exact a.d3.symm
    · exact fun e' => h.own.kb (e' ▸ e)
theorem Fnd.head (h : Fnd B w n L c0 c1 c2 sv S) (x : Nat) (v : Int) : Fnd B (w.setCell ⟨L.ab, x, none⟩ (.int .i64 v)) n L c0 c1 c2 sv { S with ah := fun i => if i = x then v else S.ah i } := by
  have a := h.ap
  have bl : ∀ k, k ≠ L.ab → (w.setCell ⟨L.ab, x, none⟩ (.int .i64 v)).heap[k]? = w.heap[k]? := fun k hk => heap_setCell_other _ _ _ _ hk
  refine ⟨(bl _ a.a4).trans h.box, h.st.keep fun k _ e => bl k ?_, h.hp.keep fun k _ e => bl k ?_, h.hops.keep (bl _ a.d1), h.ahead.set x v, h.ap, h.up, h.own⟩
  · rcases e with rfl | rfl
    · exact a.b2
    · exact a.c2
  · rcases e with rfl | rfl | e
    · exact a.e1.symm
    · exact a.e2.symm
    · exact fun e' => h.own.ab (e' ▸ e)
end

theorem Fx.below {B : Nat} {w w' : World} {n : Nat} {L : FL} {c0 c1 c2 sv sv' : Value} {S : FS} (h : Fnd B w n L c0 c1 c2 sv S) (hf : Fx L sv sv' w w') (hB : B ≤ w.heap.size) : Below B w w' := ⟨hf.os, hf.tape, hf.output, hf.size, fun k hk => hf.block k (by omega) (by have := h.up.sb; omega) (by have := h.up.pb; omega) (by have := h.up.kb; omega) (by have := h.up.ab; omega) (by have := h.up.hb; omega) (by have := h.up.wb; omega) (fun e => by have := h.own.base k e; omega)⟩

/-- a label more. -/
def FS.lab (S : FS) (x : Nat) (d hp ah : Int) : FS := ⟨S.vs.set x (some d), fun i => if i = x then hp else S.hs i, fun i => if i = x then ah else S.ah i, Hp.upd S.f x (some d)⟩

set_option maxRecDepth 100000 in
set_option maxHeartbeats 4000000 in
theorem label_calls {B : Nat} {w : World} {n : Nat} {L : FL} {c0 c1 c2 sv : Value} {S : FS} (h : Fnd B w n L c0 c1 c2 sv S) (hB : B ≤ w.heap.size) (x : Nat) (hx : x < n) (d hp ah : Int) :
    Calls Try.prog 49 #[.pointer (some ⟨L.fi, 0, none⟩), .int .i64 x, .int .u64 d, .int .i64 hp, .int .i64 ah] w fun e w' => e = .returned (.tuple #[]) ∧ (∃ sv', Fnd B w' n L c0 c1 c2 sv' (S.lab x d hp ah) ∧ Fx L sv sv' w w') ∧ Below B w w' := by
  have hn : n ≤ 65536 := h.st.lt.2.2.2.2
  have HS : Hid (type_of% (St.set_calls h.st x hx d)) := St.set_calls h.st x hx d
  have HF : Hid (Fnd B w n L c0 c1 c2 sv S) := h
  obtain ⟨k0, k1, k2, k3, k4, k5, k6⟩ := h.box7
  have kl := h.lts.1
  have i1 : (x : Int) < (n : Int) := by omega
  have i2 : (0 : Int) ≤ (x : Int) := by omega
  have i3 : IntKind.u32.wrap (x : Int) = (x : Int) := by rw [IntKind.wrap_u32] <;> omega
  clear h
  go_enter Try.func49, Try.ntmps49
  go_wp2_with fail
  refine HS.out.mono ?_
  rintro e w1 ⟨rfl, hs, hf⟩
  have F1 : Hid (Fnd B w1 n L c0 c1 c2 sv { S with vs := S.vs.set x (some d) } ∧ Below B w w1) := ⟨HF.out.stamped hs hf, HF.out.stBelow hf hB⟩
  have X1 : Hid (Fx L sv sv w w1) := Fx.ofSt hf
  clear hs hf k0 k1 k2 k3 k4 k5 k6 kl HS
  obtain ⟨k0, k1, k2, k3, k4, k5, k6⟩ := F1.out.1.box7
  have kl := F1.out.1.lts.1
  have q0 := F1.out.1.hops.cell hx
  have q1 := F1.out.1.hops.free x
  have q2 := F1.out.1.lts.2.2.2.1
  have q3 := F1.out.1.ap.a3
  have q4 := F1.out.1.ap.d1
  have q5 := F1.out.1.ahead.cell hx
  have q6 := F1.out.1.ahead.free x
  have q7 := F1.out.1.lts.2.2.2.2.1
  have q8 := F1.out.1.ap.a4
  have F2 : Hid (Fnd B ((w1.setCell ⟨L.kb, x, none⟩ (.int .i64 hp)).setCell ⟨L.ab, x, none⟩ (.int .i64 ah)) n L c0 c1 c2 sv { S with vs := S.vs.set x (some d), hs := fun i => if i = x then hp else S.hs i, ah := fun i => if i = x then ah else S.ah i } ∧ Below B w ((w1.setCell ⟨L.kb, x, none⟩ (.int .i64 hp)).setCell ⟨L.ab, x, none⟩ (.int .i64 ah))) := ⟨(F1.out.1.hop x hp).head x ah, (F1.out.2.setCell F1.out.1.up.kb _).setCell F1.out.1.up.ab _⟩
  have HH : Hid (type_of% (Hp.set_calls F2.out.1.hp x hx d)) := Hp.set_calls F2.out.1.hp x hx d
  go_wp2_with fail
  refine HH.out.mono ?_
  rintro e w2 ⟨rfl, sv', hs, hf⟩
  have hB2 : B ≤ ((w1.setCell ⟨L.kb, x, none⟩ (.int .i64 hp)).setCell ⟨L.ab, x, none⟩ (.int .i64 ah)).heap.size := Nat.le_trans hB F2.out.2.size
  have F3 : Hid ((∃ sv', Fnd B w2 n L c0 c1 c2 sv' (S.lab x d hp ah) ∧ Fx L sv sv' w w2) ∧ Below B w w2) := ⟨⟨sv', F2.out.1.heaped hs hf hB2, ((X1.out.hop x (.int .i64 hp)).head x (.int .i64 ah)).trans (Fx.ofHp hf)⟩, F2.out.2.trans (F2.out.1.hpBelow hf hB2)⟩
  clear hs hf hB2 k0 k1 k2 k3 k4 k5 k6 kl q0 q1 q2 q3 q4 q5 q6 q7 q8
  go_wp2
  go_end0
  exact ⟨rfl, F3.out.1, F3.out.2⟩

/-- is this way to a node shorter than what is known? -/
def FS.better (S : FS) (x : Nat) (d : Int) : Bool := match S.vs[x]? with
  | some (some k) => decide (d < k)
  | some none => true
  | none => false
/-- an arc is looked at. -/
def relax1 (v : Nat) (d h : Int) (S : FS) (a : Int × Int × Int) : FS := if S.better a.2.1.toNat (d + a.2.2) then S.lab a.2.1.toNat (d + a.2.2) (h + 1) v else S
/-- the arcs of a node. -/
def arcRow (zs : List (Int × Int × Int)) (i j : Nat) : List (Int × Int × Int) := (zs.take j).drop i
theorem arcRow_next {zs : List (Int × Int × Int)} {i j : Nat} {a : Int × Int × Int} (hij : i ≤ j) (ha : zs[j]? = some a) : arcRow zs i (j + 1) = arcRow zs i j ++ [a] := by
  have hl := (List.getElem?_eq_some_iff.1 ha).1
  unfold arcRow
  rw [List.take_add_one, ha, List.drop_append_of_le_length (by rw [List.length_take]; omega)]
  rfl
theorem relax_hs {v : Nat} {d h : Int} {S : FS} {a : Int × Int × Int} (hS : S.hs v = h) (hne : a.2.1.toNat ≠ v) : (relax1 v d h S a).hs v = h := by
  unfold relax1
  split
  · show (if v = a.2.1.toNat then h + 1 else S.hs v) = h
    rw [if_neg (Ne.symm hne)]
    exact hS
  · exact hS

set_option maxRecDepth 100000 in
set_option maxHeartbeats 4000000 in
theorem lookFrom_calls {B : Nat} {w : World} {n : Nat} {L : FL} {fo uo wo : Option Addr} {fc tc wc : Nat} {zs : List (Int × Int × Int)} {sv : Value} {S : FS} (hF : Fnd B w n L (.slice fo (n + 1) fc) (.slice uo zs.length tc) (.slice wo zs.length wc) sv S) (hB : B ≤ w.heap.size) (hz : Fine n zs) (hC : ∀ wx, Below B w wx → CsrIn wx n zs fo uo wo fc tc wc) (v : Nat) (hv : v < n) (d h : Int) (hd : 0 ≤ d) (hd2 : d ≤ 140737488355328) (hh : S.hs v = h) (hh1 : 0 ≤ h) (hh2 : h ≤ 1000000) :
    Calls Try.prog 52 #[.pointer (some ⟨L.fi, 0, none⟩), .int .i64 v, .int .u64 d] w fun e w' => e = .returned (.tuple #[]) ∧ (∃ sv', Fnd B w' n L (.slice fo (n + 1) fc) (.slice uo zs.length tc) (.slice wo zs.length wc) sv' ((arcRow zs (firstAt zs v) (firstAt zs (v + 1))).foldl (relax1 v d h) S) ∧ Fx L sv sv' w w') ∧ Below B w w' := by
  have hn := hz.few
  have hm := hz.short
  obtain ⟨fb, fof, rfl, _, _⟩ := (hC w (Below.refl _ _)).first
  have HC : Hid (∀ wx, Below B w wx → (∀ u, u ≤ n → wx.cell? ⟨fb, fof + u, none⟩ = some (.int .i64 (firstAt zs u))) ∧ fb < wx.heap.size) := fun wx hb => by
    obtain ⟨b, o, e, hl, hc⟩ := (hC wx hb).first
    cases e
    exact ⟨hc, hl⟩
  have HA : Hid (∀ (k : Nat) (a : Int × Int × Int), zs[k]? = some a → ∃ tb tof wb wof, uo = some ⟨tb, tof, none⟩ ∧ wo = some ⟨wb, wof, none⟩ ∧ ∀ wx, Below B w wx → wx.cell? ⟨tb, tof + k, none⟩ = some (.int .i64 a.2.1) ∧ wx.cell? ⟨wb, wof + k, none⟩ = some (.int .i64 a.2.2) ∧ tb < wx.heap.size ∧ wb < wx.heap.size) := fun k a ha => by
    have hl := (List.getElem?_eq_some_iff.1 ha).1
    obtain ⟨tb, tof, wb, wof, e1, e2, _⟩ := (hC w (Below.refl _ _)).arc (by omega)
    refine ⟨tb, tof, wb, wof, e1, e2, fun wx hb => ?_⟩
    obtain ⟨tb', tof', wb', wof', e1', e2', l1, l2, hc⟩ := (hC wx hb).arc (by omega)
    rw [e1] at e1'
    rw [e2] at e2'
    cases e1'
    cases e2'
    exact ⟨(hc k a ha).1, (hc k a ha).2, l1, l2⟩
  have HZ : Hid (Fine n zs) := hz
  have HF0 : Hid (Fnd B w n L (.slice (some ⟨fb, fof, none⟩) (n + 1) fc) (.slice uo zs.length tc) (.slice wo zs.length wc) sv S) := hF
  have hxy : firstAt zs v ≤ firstAt zs (v + 1) := firstAt_mono zs (by omega)
  have hyl := firstAt_le zs (v + 1)
  obtain ⟨i0, hi0⟩ : ∃ i0, firstAt zs v = i0 := ⟨_, rfl⟩
  obtain ⟨j0, hj0⟩ : ∃ j0, firstAt zs (v + 1) = j0 := ⟨_, rfl⟩
  have HIJ : Hid (firstAt zs v = i0 ∧ firstAt zs (v + 1) = j0) := ⟨hi0, hj0⟩
  rw [hi0, hj0] at hxy ⊢
  rw [hj0] at hyl
  obtain ⟨k0, k1, k2, k3, k4, k5, k6⟩ := hF.box7
  have kl := hF.lts.1
  have c0 : w.cell? ⟨fb, fof + v, none⟩ = some (.int .i64 i0) := by rw [← hi0]; exact (HC.out w (Below.refl _ _)).1 v (by omega)
  have cl := (HC.out w (Below.refl _ _)).2
  have e1 : (v : Int) < (n : Int) + 1 := by omega
  have e2 : (v : Int) + 1 < (n : Int) + 1 := by omega
  have e3 : (0 : Int) ≤ (v : Int) := by omega
  have e4 : (0 : Int) ≤ (v : Int) + 1 := by omega
  have e5 : IntKind.i64.wrap ((v : Int) + 1) = (v : Int) + 1 := by rw [IntKind.wrap_i64] <;> omega
  have e6 : (v : Int) < (n : Int) := by omega
  have HH : Hid (S.hs v = h) := hh
  clear hF hC hz hi0 hj0 hh
  go_enter Try.func52, Try.ntmps52
  go_wp2_with fail
  clear k0 k1 k2 k3 k4 k5 k6 kl c0 cl
  go_loopw [6] (fun iv wr => ∃ k : Nat, i0 ≤ k ∧ k ≤ j0 ∧ iv = .int .i64 k ∧ (∃ sv', Fnd B wr n L (.slice (some ⟨fb, fof, none⟩) (n + 1) fc) (.slice uo zs.length tc) (.slice wo zs.length wc) sv' ((arcRow zs i0 k).foldl (relax1 v d h) S) ∧ Fx L sv sv' w wr) ∧ ((arcRow zs i0 k).foldl (relax1 v d h) S).hs v = h ∧ Below B w wr) (fun iv _ => j0 - (intOf iv).toNat)
  case atStart => exact ⟨i0, Nat.le_refl _, hxy, rfl, ⟨sv, by rw [show arcRow zs i0 i0 = [] by unfold arcRow; rw [List.drop_eq_nil_iff]; simp; omega]; exact HF0.out, Fx.of_below (Below.refl _ _)⟩, by rw [show arcRow zs i0 i0 = [] by unfold arcRow; rw [List.drop_eq_nil_iff]; simp; omega]; exact HH.out, Below.refl _ _⟩
  case round =>
    obtain ⟨k, hk1, hk2, rfl, ⟨sv1, hF1, hX1⟩, hSh, hb⟩ := hrel
    have HX1 : Hid (Fx L sv sv1 w wr) := hX1
    clear hX1
    obtain ⟨Sk, hSk⟩ : ∃ Sk, (arcRow zs i0 k).foldl (relax1 v d h) S = Sk := ⟨_, rfl⟩
    have HSK : Hid ((arcRow zs i0 k).foldl (relax1 v d h) S = Sk) := hSk
    rw [hSk] at hF1 hSh
    have HF1 : Hid (Fnd B wr n L (.slice (some ⟨fb, fof, none⟩) (n + 1) fc) (.slice uo zs.length tc) (.slice wo zs.length wc) sv1 Sk) := hF1
    have HB1 : Hid (Below B w wr) := hb
    have HSH : Hid (Sk.hs v = h) := hSh
    obtain ⟨k0, _, _, k3, k4, k5, k6⟩ := hF1.box7
    have k1 : wr.cell? ⟨L.fi, 1, none⟩ = some (.slice uo zs.length tc) := hF1.box7.2.1
    have k2 : wr.cell? ⟨L.fi, 2, none⟩ = some (.slice wo zs.length wc) := hF1.box7.2.2.1
    have kl := hF1.lts.1
    have c1 : wr.cell? ⟨fb, fof + (v + 1), none⟩ = some (.int .i64 j0) := by rw [← HIJ.out.2]; exact (HC.out wr hb).1 (v + 1) (by omega)
    have cl := (HC.out wr hb).2
    have q0 := hF1.hops.cell hv
    have ql := hF1.lts.2.2.2.1
    rw [hSh] at q0
    by_cases hlt : k < j0
    · obtain ⟨a, ha⟩ : ∃ a, zs[k]? = some a := ⟨zs[k], List.getElem?_eq_getElem (by omega)⟩
      obtain ⟨tb, tof, wb, wof, rfl, rfl, hcell⟩ := HA.out k a ha
      obtain ⟨t0, t1, t2, t3⟩ := hcell wr hb
      have hends := HZ.out.ends a (List.mem_of_getElem? ha)
      obtain ⟨u, hu⟩ : ∃ u : Nat, a.2.1 = (u : Int) := ⟨a.2.1.toNat, by omega⟩
      obtain ⟨r, hr⟩ : ∃ r, a.2.2 = r := ⟨_, rfl⟩
      have hun : u < n := by omega
      have hav : a.1 = (v : Int) := HZ.out.row ha (by rw [HIJ.out.1]; exact hk1) (by rw [HIJ.out.2]; exact hlt)
      have huv : u ≠ v := by omega
      rw [hu] at t0
      rw [hr] at t1
      have r0 : 0 ≤ r := by omega
      have r1 : r ≤ 2147483647 := by omega
      have HNX : Hid ((arcRow zs i0 (k + 1)).foldl (relax1 v d h) S = if Sk.better u (d + r) then Sk.lab u (d + r) (h + 1) v else Sk) := by
        show _ = _
        rw [arcRow_next hk1 ha, List.foldl_append, HSK.out]
        show relax1 v d h Sk a = _
        unfold relax1
        rw [hu, hr, Int.toNat_natCast]
      have s1 : IntKind.u64.wrap r = r := by rw [IntKind.wrap_u64] <;> omega
      have s2 : IntKind.u64.wrap (d + r) = d + r := by rw [IntKind.wrap_u64] <;> omega
      have s3 : (k : Int) < (zs.length : Int) := by omega
      have s4 : (0 : Int) ≤ (k : Int) := by omega
      have s5 : (k : Int) < (j0 : Int) := by omega
      have s6 : IntKind.i64.wrap (h + 1) = h + 1 := by rw [IntKind.wrap_i64] <;> omega
      obtain ⟨o, ho⟩ : ∃ o, Sk.vs[u]? = some o := ⟨Sk.vs[u]'(by rw [hF1.st.lt.2.2.2.1]; exact hun), List.getElem?_eq_getElem _⟩
      have HO : Hid (Sk.vs[u]? = some o) := ho
      have HUV : Hid (u ≠ v ∧ u < n) := ⟨huv, hun⟩
      clear hF1 hSh hb hSk ha hcell hends hu hr hav huv ho
      go_wp2_with fail
      go_quiet (fail)
      have F2 : Hid (Fnd B (wr.drewN nq) n L (.slice (some ⟨fb, fof, none⟩) (n + 1) fc) (.slice (some ⟨tb, tof, none⟩) zs.length tc) (.slice (some ⟨wb, wof, none⟩) zs.length wc) sv1 Sk ∧ Below B w (wr.drewN nq)) := ⟨HF1.out.keep fun _ _ _ => rfl, below_drewN HB1.out nq⟩
      have X2 : Hid (Fx L sv sv1 w (wr.drewN nq)) := HX1.out.trans (Fx.of_below (below_drewN (Below.refl _ _) nq))
      generalize hw2 : wr.drewN nq = w2 at *
      clear hw2 k0 k1 k2 k3 k4 k5 k6 kl q0 ql t0 t1 t2 t3 c1 cl
      have k3 : w2.cell? ⟨L.fi, 3, none⟩ = some (.pointer (some ⟨L.sb, 0, none⟩)) := F2.out.1.box7.2.2.2.1
      have kl := F2.out.1.lts.1
      have hB2 : B ≤ w2.heap.size := Nat.le_trans hB F2.out.2.size
      go_wp2_with fail
      refine (St.get_in F2.out.1.st u o HO.out).mono ?_
      rintro e w3 ⟨rfl, hb3⟩
      have F3 : Hid (Fnd B w3 n L (.slice (some ⟨fb, fof, none⟩) (n + 1) fc) (.slice (some ⟨tb, tof, none⟩) zs.length tc) (.slice (some ⟨wb, wof, none⟩) zs.length wc) sv1 Sk ∧ Below B w w3) := ⟨F2.out.1.below hb3, F2.out.2.trans (hb3.mono hB2)⟩
      have X3 : Hid (Fx L sv sv1 w w3) := X2.out.trans (Fx.of_below hb3)
      have HB3 : Hid (B ≤ w3.heap.size) := Nat.le_trans hB2 hb3.size
      clear hb3 k3 kl F2 hB2 HB1 HF1
      cases o with
      | none =>
        simp only [St.gotV]
        have hF3 := F3.out.1
        obtain ⟨k0, _, _, k3, k4, k5, k6⟩ := hF3.box7
        have k1 : w3.cell? ⟨L.fi, 1, none⟩ = some (.slice (some ⟨tb, tof, none⟩) zs.length tc) := hF3.box7.2.1
        have k2 : w3.cell? ⟨L.fi, 2, none⟩ = some (.slice (some ⟨wb, wof, none⟩) zs.length wc) := hF3.box7.2.2.1
        have kl := hF3.lts.1
        have q0 := hF3.hops.cell hv
        have ql := hF3.lts.2.2.2.1
        rw [HSH.out] at q0
        have HLB : Hid (type_of% (label_calls hF3 HB3.out u HUV.out.2 (d + r) (h + 1) v)) := label_calls hF3 HB3.out u HUV.out.2 (d + r) (h + 1) v
        clear hF3
        go_wp2_with fail
        refine HLB.out.mono ?_
        rintro e w4 ⟨rfl, ⟨sv4, hF4, hX4⟩, hb4⟩
        have F4 : Hid (Fnd B w4 n L (.slice (some ⟨fb, fof, none⟩) (n + 1) fc) (.slice (some ⟨tb, tof, none⟩) zs.length tc) (.slice (some ⟨wb, wof, none⟩) zs.length wc) sv4 (Sk.lab u (d + r) (h + 1) v) ∧ Below B w w4) := ⟨hF4, F3.out.2.trans hb4⟩
        have X4 : Hid (Fx L sv sv4 w w4) := X3.out.trans hX4
        clear hF4 hX4 hb4 k0 k1 k2 k3 k4 k5 k6 kl q0 ql
        go_wp2
        go_roundw
        case rel => exact ⟨k + 1, by omega, by omega, by go_num, ⟨sv4, by rw [HNX.out, if_pos (by unfold FS.better; rw [HO.out])]; exact F4.out.1, X4.out⟩, by rw [HNX.out, if_pos (by unfold FS.better; rw [HO.out])]; show (if v = u then h + 1 else Sk.hs v) = h; rw [if_neg (Ne.symm HUV.out.1)]; exact HSH.out, F4.out.2⟩
        case measure => simp [intOf]; omega
      | some kd =>
        simp only [St.gotV]
        by_cases hbt : d + r < kd
        · have HBT : Hid (d + r < kd) := hbt
          have hF3 := F3.out.1
          obtain ⟨k0, _, _, k3, k4, k5, k6⟩ := hF3.box7
          have k1 : w3.cell? ⟨L.fi, 1, none⟩ = some (.slice (some ⟨tb, tof, none⟩) zs.length tc) := hF3.box7.2.1
          have k2 : w3.cell? ⟨L.fi, 2, none⟩ = some (.slice (some ⟨wb, wof, none⟩) zs.length wc) := hF3.box7.2.2.1
          have kl := hF3.lts.1
          have q0 := hF3.hops.cell hv
          have ql := hF3.lts.2.2.2.1
          rw [HSH.out] at q0
          have HLB : Hid (type_of% (label_calls hF3 HB3.out u HUV.out.2 (d + r) (h + 1) v)) := label_calls hF3 HB3.out u HUV.out.2 (d + r) (h + 1) v
          clear hF3
          go_wp2_with fail
          refine HLB.out.mono ?_
          rintro e w4 ⟨rfl, ⟨sv4, hF4, hX4⟩, hb4⟩
          have F4 : Hid (Fnd B w4 n L (.slice (some ⟨fb, fof, none⟩) (n + 1) fc) (.slice (some ⟨tb, tof, none⟩) zs.length tc) (.slice (some ⟨wb, wof, none⟩) zs.length wc) sv4 (Sk.lab u (d + r) (h + 1) v) ∧ Below B w w4) := ⟨hF4, F3.out.2.trans hb4⟩
          have X4 : Hid (Fx L sv sv4 w w4) := X3.out.trans hX4
          clear hF4 hX4 hb4 k0 k1 k2 k3 k4 k5 k6 kl q0 ql
          go_wp2
          go_roundw
          case rel => exact ⟨k + 1, by omega, by omega, by go_num, ⟨sv4, by rw [HNX.out, if_pos (by unfold FS.better; rw [HO.out]; exact decide_eq_true HBT.out)]; exact F4.out.1, X4.out⟩, by rw [HNX.out, if_pos (by unfold FS.better; rw [HO.out]; exact decide_eq_true HBT.out)]; show (if v = u then h + 1 else Sk.hs v) = h; rw [if_neg (Ne.symm HUV.out.1)]; exact HSH.out, F4.out.2⟩
          case measure => simp [intOf]; omega
        · have HBT : Hid (¬ d + r < kd) := hbt
          go_wp2
          go_roundw
          case rel => exact ⟨k + 1, by omega, by omega, by go_num, ⟨sv1, by rw [HNX.out, if_neg (by unfold FS.better; rw [HO.out]; simp [HBT.out])]; exact F3.out.1, X3.out⟩, by rw [HNX.out, if_neg (by unfold FS.better; rw [HO.out]; simp [HBT.out])]; exact HSH.out, F3.out.2⟩
          case measure => simp [intOf]; omega
    · obtain rfl : k = j0 := by omega
      have F3 : Hid ((∃ sv', Fnd B wr n L (.slice (some ⟨fb, fof, none⟩) (n + 1) fc) (.slice uo zs.length tc) (.slice wo zs.length wc) sv' ((arcRow zs i0 k).foldl (relax1 v d h) S) ∧ Fx L sv sv' w wr) ∧ Below B w wr) := ⟨⟨sv1, by rw [HSK.out]; exact HF1.out, HX1.out⟩, HB1.out⟩
      clear hF1 hSh hb hSk
      go_wp2
      go_end0
      exact ⟨rfl, F3.out.1, F3.out.2⟩
end Go.Proofs.Ytefcmpdnlbpjpaa

namespace Go.Proofs.Ytefcmpdnlbpjpaa

/-- a walk of so many steps, and its length. -/
def ReachN (zs : List (Int × Int × Int)) (s : Int) : Nat → Int → Int → Prop
  | 0, v, d => v = s ∧ d = 0
  | k + 1, v, d => ∃ u e r, ReachN zs s k u e ∧ (u, v, r) ∈ zs ∧ d = e + r
def Reach (zs : List (Int × Int × Int)) (s v d : Int) : Prop := ∃ k, ReachN zs s k v d

/-- a node is settled. -/
def FS.pop (S : FS) (v : Nat) : FS := { S with f := Hp.upd S.f v none }
def FS.step (zs : List (Int × Int × Int)) (hb : Int) (S : FS) (v : Nat) (k : Int) : FS := if S.hs v < hb then (arcRow zs (firstAt zs v) (firstAt zs (v + 1))).foldl (relax1 v k (S.hs v)) (S.pop v) else S.pop v
def Steps (n : Nat) (zs : List (Int × Int × Int)) (hb mo : Int) (S0 : FS) : Nat → FS → Prop
  | 0, S => S = S0
  | t + 1, S => ∃ S1 v k, Steps n zs hb mo S0 t S1 ∧ Hp.Least n S1.f v k ∧ k ≤ mo ∧ S = S1.step zs hb v k
/-- is a node settled? -/
def FS.fix (S : FS) (v : Nat) : Bool := (match S.vs[v]? with | some (some _) => true | _ => false) && (S.f (v : Int)).isNone
def FS.cnt (n : Nat) (S : FS) : Nat := (List.range n).countP (S.fix ·)
theorem FS.fix_iff {S : FS} {v : Nat} : S.fix v = true ↔ (∃ d, S.vs[v]? = some (some d)) ∧ S.f (v : Int) = none := by
  unfold FS.fix
  rw [Bool.and_eq_true, Option.isNone_iff_eq_none]
  constructor
  · rintro ⟨h1, h2⟩
    refine ⟨?_, h2⟩
    split at h1
    · rename_i d h; exact ⟨d, h⟩
    · cases h1
  · rintro ⟨⟨d, h1⟩, h2⟩
    exact ⟨by rw [h1], h2⟩

/-- what holds between two steps. -/
structure SInv (n : Nat) (zs : List (Int × Int × Int)) (hb : Int) (s t : Nat) (S : FS) : Prop where
  lv : S.vs.length = n
  opn : ∀ (v : Nat) (k : Int), v < n → S.f (v : Int) = some k → S.vs[v]? = some (some k)
  lab : ∀ (v : Nat) (d : Int), S.vs[v]? = some (some d) → 0 ≤ d ∧ d ≤ S.hs v * 2147483647 ∧ 0 ≤ S.hs v ∧ S.hs v ≤ (t : Int) ∧ Reach zs (s : Int) (v : Int) d
  src : S.vs[s]? = some (some 0)
  mono : ∀ (v : Nat) (d : Int) (u : Nat) (k : Int), S.vs[v]? = some (some d) → S.f (v : Int) = none → u < n → S.f (u : Int) = some k → d ≤ k
  done : ∀ (v : Nat) (d : Int), S.vs[v]? = some (some d) → S.f (v : Int) = none → S.hs v < hb → ∀ (u r : Int), ((v : Int), u, r) ∈ zs → ∃ e, S.vs[u.toNat]? = some (some e) ∧ e ≤ d + r
  cnt : S.cnt n = t
/-- what holds while a node's arcs are looked at. -/
structure MInv (n : Nat) (zs : List (Int × Int × Int)) (hb : Int) (s t : Nat) (v : Nat) (k h : Int) (l : List (Int × Int × Int)) (S : FS) : Prop where
  lv : S.vs.length = n
  opn : ∀ (u : Nat) (e : Int), u < n → S.f (u : Int) = some e → S.vs[u]? = some (some e) ∧ k ≤ e
  lab : ∀ (u : Nat) (d : Int), S.vs[u]? = some (some d) → 0 ≤ d ∧ d ≤ S.hs u * 2147483647 ∧ 0 ≤ S.hs u ∧ S.hs u ≤ (t : Int) + 1 ∧ Reach zs (s : Int) (u : Int) d
  src : S.vs[s]? = some (some 0)
  low : ∀ (u : Nat) (d : Int), S.vs[u]? = some (some d) → S.f (u : Int) = none → d ≤ k
  done : ∀ (u : Nat) (d : Int), u ≠ v → S.vs[u]? = some (some d) → S.f (u : Int) = none → S.hs u < hb → ∀ (y r : Int), ((u : Int), y, r) ∈ zs → ∃ e, S.vs[y.toNat]? = some (some e) ∧ e ≤ d + r
  me : S.vs[v]? = some (some k) ∧ S.f (v : Int) = none ∧ S.hs v = h
  seen : ∀ a ∈ l, ∃ e, S.vs[a.2.1.toNat]? = some (some e) ∧ e ≤ k + a.2.2
  cnt : S.cnt n = t + 1

theorem set_get {α : Type} {l : List α} {i j : Nat} {x y : α} (h : (l.set i x)[j]? = some y) : (j = i ∧ y = x) ∨ (j ≠ i ∧ l[j]? = some y) := by
  rw [List.getElem?_set] at h
  split at h
  · rename_i e
    subst e
    split at h
    · exact Or.inl ⟨rfl, (Option.some.inj h).symm⟩
    · cases h
  · rename_i e
    exact Or.inr ⟨fun e' => e e'.symm, h⟩

theorem MInv.next {n : Nat} {zs : List (Int × Int × Int)} {hb : Int} {s t v : Nat} {k h : Int} {l : List (Int × Int × Int)} {S : FS} (hz : Fine n zs) (hI : MInv n zs hb s t v k h l S) (hh : 0 ≤ h) (hh2 : h ≤ (t : Int)) (hk : 0 ≤ k) (hkh : k ≤ h * 2147483647) {a : Int × Int × Int} (ha : a ∈ zs) (hav : a.1 = (v : Int)) : MInv n zs hb s t v k h (l ++ [a]) (relax1 v k h S a) := by
  have he := hz.ends a ha
  obtain ⟨x, hx⟩ : ∃ x : Nat, a.2.1 = (x : Int) := ⟨a.2.1.toNat, by omega⟩
  obtain ⟨r, hr⟩ : ∃ r, a.2.2 = r := ⟨_, rfl⟩
  have hxn : x < n := by omega
  have hxv : x ≠ v := by omega
  have r0 : 0 ≤ r := by omega
  have r1 : r ≤ 2147483647 := by omega
  have hax : ((v : Int), (x : Int), r) ∈ zs := by
    have : a = ((v : Int), (x : Int), r) := by rw [← hav, ← hx, ← hr]
    rw [← this]; exact ha
  have hRv := (hI.lab v k hI.me.1).2.2.2.2
  have hRx : Reach zs (s : Int) (x : Int) (k + r) := by
    obtain ⟨m, hm⟩ := hRv
    exact ⟨m + 1, (v : Int), k, r, hm, hax, rfl⟩
  unfold relax1
  rw [hx, hr, Int.toNat_natCast]
  have hxl : x < S.vs.length := by rw [hI.lv]; exact hxn
  by_cases hb' : S.better x (k + r) = true
  · rw [if_pos hb']
    -- what was known there
    have hopen : ∀ d, S.vs[x]? = some (some d) → k + r < d ∧ S.f (x : Int) ≠ none := fun d hd => by
      have hlt : k + r < d := by
        unfold FS.better at hb'
        rw [hd] at hb'
        simpa using hb'
      exact ⟨hlt, fun e => by have := hI.low x d hd e; omega⟩
    have hsx : (S.vs.set x (some (k + r)))[x]? = some (some (k + r)) := by rw [List.getElem?_set]; simp [hxl]
    have hso : ∀ u, u ≠ x → (S.vs.set x (some (k + r)))[u]? = S.vs[u]? := fun u hu => by rw [List.getElem?_set, if_neg (fun e => hu e.symm)]
    have hfx : ∀ u : Nat, Hp.upd S.f x (some (k + r)) (u : Int) = if u = x then some (k + r) else S.f (u : Int) := fun u => by
      unfold Hp.upd
      by_cases e : u = x
      · rw [if_pos (by omega), if_pos e]
      · rw [if_neg (by omega), if_neg e]
    have hfo : ∀ u : Nat, Hp.upd S.f x (some (k + r)) (u : Int) = none → u ≠ x ∧ S.f (u : Int) = none := fun u h => by
      rw [hfx] at h
      split at h
      · cases h
      · rename_i e; exact ⟨e, h⟩
    have hlow : ∀ (y : Nat) (e : Int), S.vs[y]? = some (some e) → ∃ e', (S.vs.set x (some (k + r)))[y]? = some (some e') ∧ e' ≤ e := fun y e hy => by
      by_cases hyx : y = x
      · subst hyx
        exact ⟨k + r, hsx, by have := (hopen e hy).1; omega⟩
      · exact ⟨e, by rw [hso y hyx]; exact hy, Int.le_refl _⟩
    refine ⟨by show (S.vs.set x (some (k + r))).length = n; rw [List.length_set]; exact hI.lv, fun u e hu hf => ?_, fun u d hd => ?_, ?_, fun u d hd hf => ?_, fun u d huv hd hf hhs y r' hm => ?_, ⟨by show (S.vs.set x (some (k + r)))[v]? = _; rw [hso v (Ne.symm hxv)]; exact hI.me.1, by show Hp.upd S.f x (some (k + r)) (v : Int) = none; rw [hfx, if_neg (Ne.symm hxv)]; exact hI.me.2.1, by show (if v = x then h + 1 else S.hs v) = h; rw [if_neg (Ne.symm hxv)]; exact hI.me.2.2⟩, fun b hbm => ?_, ?_⟩
    · have hf' : Hp.upd S.f x (some (k + r)) (u : Int) = some e := hf
      rw [hfx] at hf'
      split at hf'
      · rename_i e'
        subst e'
        cases hf'
        exact ⟨hsx, by omega⟩
      · rename_i e'
        exact ⟨by show (S.vs.set x (some (k + r)))[u]? = _; rw [hso u e']; exact (hI.opn u e hu hf').1, (hI.opn u e hu hf').2⟩
    · have hd' : (S.vs.set x (some (k + r)))[u]? = some (some d) := hd
      show 0 ≤ d ∧ d ≤ (if u = x then h + 1 else S.hs u) * 2147483647 ∧ 0 ≤ (if u = x then h + 1 else S.hs u) ∧ (if u = x then h + 1 else S.hs u) ≤ (t : Int) + 1 ∧ Reach zs (s : Int) (u : Int) d
      rcases set_get hd' with ⟨rfl, e⟩ | ⟨e, hd2⟩
      · cases e
        rw [if_pos rfl]
        exact ⟨by omega, by omega, by omega, by omega, hRx⟩
      · rw [if_neg e]
        exact hI.lab u d hd2
    · show (S.vs.set x (some (k + r)))[s]? = some (some 0)
      by_cases e : s = x
      · subst e
        have := (hopen 0 hI.src).1
        omega
      · rw [hso s e]; exact hI.src
    · obtain ⟨e, hf'⟩ := hfo u hf
      have hd' : (S.vs.set x (some (k + r)))[u]? = some (some d) := hd
      rw [hso u e] at hd'
      exact hI.low u d hd' hf'
    · obtain ⟨e, hf'⟩ := hfo u hf
      have hd' : (S.vs.set x (some (k + r)))[u]? = some (some d) := hd
      rw [hso u e] at hd'
      have hhs' : (if u = x then h + 1 else S.hs u) < hb := hhs
      rw [if_neg e] at hhs'
      obtain ⟨e1, g1, g2⟩ := hI.done u d huv hd' hf' hhs' y r' hm
      obtain ⟨e2, g3, g4⟩ := hlow _ e1 g1
      exact ⟨e2, g3, by omega⟩
    · rcases List.mem_append.1 hbm with hbm | hbm
      · obtain ⟨e1, g1, g2⟩ := hI.seen b hbm
        obtain ⟨e2, g3, g4⟩ := hlow _ e1 g1
        exact ⟨e2, g3, by omega⟩
      · simp at hbm
        subst hbm
        rw [hx, Int.toNat_natCast, hr]
        exact ⟨k + r, hsx, Int.le_refl _⟩
    · rw [← hI.cnt]
      unfold FS.cnt
      refine List.countP_congr fun u hu => ?_
      have hun := List.mem_range.1 hu
      rw [FS.fix_iff, FS.fix_iff]
      show (∃ d, (S.vs.set x (some (k + r)))[u]? = some (some d)) ∧ Hp.upd S.f x (some (k + r)) (u : Int) = none ↔ _
      constructor
      · rintro ⟨⟨d, hd⟩, hf⟩
        obtain ⟨e, hf'⟩ := hfo u hf
        rw [hso u e] at hd
        exact ⟨⟨d, hd⟩, hf'⟩
      · rintro ⟨⟨d, hd⟩, hf⟩
        have e : u ≠ x := fun e => by subst e; exact (hopen d hd).2 hf
        exact ⟨⟨d, by rw [hso u e]; exact hd⟩, by rw [hfx, if_neg e]; exact hf⟩
  · rw [if_neg hb']
    refine ⟨hI.lv, hI.opn, hI.lab, hI.src, hI.low, hI.done, hI.me, fun b hbm => ?_, hI.cnt⟩
    rcases List.mem_append.1 hbm with hbm | hbm
    · exact hI.seen b hbm
    · simp at hbm
      subst hbm
      rw [hx, Int.toNat_natCast, hr]
      obtain ⟨o, ho⟩ : ∃ o, S.vs[x]? = some o := ⟨S.vs[x], List.getElem?_eq_getElem hxl⟩
      unfold FS.better at hb'
      rw [ho] at hb'
      cases o with
      | none => simp at hb'
      | some e => exact ⟨e, ho, by simpa using hb'⟩
theorem MInv.all {n : Nat} {zs : List (Int × Int × Int)} {hb : Int} {s t v : Nat} {k h : Int} (hz : Fine n zs) (hh : 0 ≤ h) (hh2 : h ≤ (t : Int)) (hk : 0 ≤ k) (hkh : k ≤ h * 2147483647) : ∀ (m l : List (Int × Int × Int)) (S : FS), MInv n zs hb s t v k h l S → (∀ a ∈ m, a ∈ zs ∧ a.1 = (v : Int)) → MInv n zs hb s t v k h (l ++ m) (m.foldl (relax1 v k h) S)
  | [], l, S, hI, _ => by simpa using hI
  | a :: m, l, S, hI, hm => by
    have h1 := hI.next hz hh hh2 hk hkh (hm a (by simp)).1 (hm a (by simp)).2
    have h2 := MInv.all hz hh hh2 hk hkh m (l ++ [a]) _ h1 (fun b hb => hm b (by simp [hb]))
    rw [List.append_assoc] at h2
    exact h2
theorem Fine.arcRow_mem {n : Nat} {zs : List (Int × Int × Int)} (hz : Fine n zs) (v : Nat) (a : Int × Int × Int) : a ∈ arcRow zs (firstAt zs v) (firstAt zs (v + 1)) ↔ a ∈ zs ∧ a.1 = (v : Int) := by
  have hl := firstAt_le zs (v + 1)
  constructor
  · intro h
    obtain ⟨j, hj⟩ := List.getElem?_of_mem h
    unfold arcRow at hj
    rw [List.getElem?_drop, List.getElem?_take] at hj
    split at hj
    · exact ⟨List.mem_of_getElem? hj, hz.row hj (by omega) (by omega)⟩
    · cases hj
  · rintro ⟨h, hv⟩
    obtain ⟨i, hi⟩ := List.getElem?_of_mem h
    have g1 := firstAt_lt hz.rise hi v
    have g2 := firstAt_lt hz.rise hi (v + 1)
    have h1 : firstAt zs v ≤ i := by
      rcases Nat.lt_or_ge i (firstAt zs v) with h' | h'
      · have := g1.1 h'; omega
      · exact h'
    have h2 : i < firstAt zs (v + 1) := g2.2 (by omega)
    refine List.mem_of_getElem? (i := i - firstAt zs v) ?_
    unfold arcRow
    rw [List.getElem?_drop, List.getElem?_take, if_pos (by omega), show firstAt zs v + (i - firstAt zs v) = i by omega]
    exact hi
theorem SInv.lt {n : Nat} {zs : List (Int × Int × Int)} {hb : Int} {s t : Nat} {S : FS} (hI : SInv n zs hb s t S) {v : Nat} {k : Int} (hL : Hp.Least n S.f v k) : t < n := by
  have h1 := hI.cnt
  unfold FS.cnt at h1
  have h2 : (List.range n).countP (S.fix ·) < (List.range n).length := by
    rcases Nat.lt_or_ge ((List.range n).countP (S.fix ·)) (List.range n).length with h | h
    · exact h
    · have h3 := List.countP_eq_length.1 (Nat.le_antisymm List.countP_le_length h) v (List.mem_range.2 hL.1)
      have := (FS.fix_iff.1 h3).2
      rw [hL.2.1] at this
      cases this
  rw [List.length_range] at h2
  omega
theorem SInv.step {n : Nat} {zs : List (Int × Int × Int)} {hb : Int} {s t : Nat} {S : FS} (hz : Fine n zs) (hI : SInv n zs hb s t S) {v : Nat} {k : Int} (hL : Hp.Least n S.f v k) : SInv n zs hb s (t + 1) (S.step zs hb v k) := by
  obtain ⟨hv, hf, hmin⟩ := hL
  have hme := hI.opn v k hv hf
  obtain ⟨l1, l2, l3, l4, l5⟩ := hI.lab v k hme
  have hup : ∀ u : Nat, Hp.upd S.f v none (u : Int) = if u = v then none else S.f (u : Int) := fun u => by
    unfold Hp.upd
    by_cases e : u = v
    · rw [if_pos (by omega), if_pos e]
    · rw [if_neg (by omega), if_neg e]
  have hleast : ∀ (u : Nat) (e : Int), u < n → S.f (u : Int) = some e → k ≤ e := fun u e hu he => by
    have := hmin u e hu he
    unfold Hp.ltT at this
    simp only at this
    omega
  have hcnt : (S.pop v).cnt n = t + 1 := by
    rw [← hI.cnt]
    unfold FS.cnt
    have hsplit : ∀ (l : List Nat), l.Nodup → v ∈ l → l.countP ((S.pop v).fix ·) = l.countP (S.fix ·) + 1 := by
      intro l
      induction l with
      | nil => intro _ h; cases h
      | cons b m ih =>
        intro hn hm
        obtain ⟨hb1, hb2⟩ := List.nodup_cons.1 hn
        have hsame : ∀ u, u ≠ v → (S.pop v).fix u = S.fix u := fun u hu => by
          rw [Bool.eq_iff_iff, FS.fix_iff, FS.fix_iff]
          show _ ∧ Hp.upd S.f v none (u : Int) = none ↔ _
          rw [hup, if_neg hu]
          exact Iff.rfl
        by_cases e : b = v
        · subst e
          have hc : m.countP ((S.pop b).fix ·) = m.countP (S.fix ·) := List.countP_congr fun u hu => by rw [hsame u (fun e => hb1 (e ▸ hu))]
          have p1 : (S.pop b).fix b = true := FS.fix_iff.2 ⟨⟨k, hme⟩, by show Hp.upd S.f b none (b : Int) = none; rw [hup, if_pos rfl]⟩
          have p2 : ¬ S.fix b = true := fun h => by rw [FS.fix_iff, hf] at h; cases h.2
          rw [List.countP_cons_of_pos p1, List.countP_cons_of_neg p2, hc]
        · have hm' : v ∈ m := by
            rcases List.mem_cons.1 hm with h | h
            · exact absurd h.symm e
            · exact h
          have := ih hb2 hm'
          by_cases p : S.fix b = true
          · rw [List.countP_cons_of_pos (by rw [hsame b e]; exact p), List.countP_cons_of_pos p, this]
          · rw [List.countP_cons_of_neg (by rw [hsame b e]; exact p), List.countP_cons_of_neg p, this]
    exact hsplit _ List.nodup_range (List.mem_range.2 hv)
  have hM : MInv n zs hb s t v k (S.hs v) [] (S.pop v) := by
    refine ⟨hI.lv, fun u e hu h => ?_, fun u d hd => ?_, hI.src, fun u d hd h => ?_, fun u d huv hd h hhs => ?_, ⟨hme, by show Hp.upd S.f v none (v : Int) = none; rw [hup, if_pos rfl], rfl⟩, (fun a ha => by cases ha), hcnt⟩
    · have h' : Hp.upd S.f v none (u : Int) = some e := h
      rw [hup] at h'
      split at h'
      · cases h'
      · exact ⟨hI.opn u e hu h', hleast u e hu h'⟩
    · obtain ⟨a1, a2, a3, a4, a5⟩ := hI.lab u d hd
      exact ⟨a1, a2, a3, by show S.hs u ≤ (t : Int) + 1; omega, a5⟩
    · have h' : Hp.upd S.f v none (u : Int) = none := h
      rw [hup] at h'
      have hd' : S.vs[u]? = some (some d) := hd
      by_cases e : u = v
      · subst e
        rw [hme] at hd'
        cases hd'
        exact Int.le_refl _
      · rw [if_neg e] at h'
        exact hI.mono u d v k hd' h' hv hf
    · have h' : Hp.upd S.f v none (u : Int) = none := h
      rw [hup, if_neg huv] at h'
      exact hI.done u d hd h' hhs
  have fin : ∀ (S' : FS), MInv n zs hb s t v k (S.hs v) (if S.hs v < hb then arcRow zs (firstAt zs v) (firstAt zs (v + 1)) else []) S' → SInv n zs hb s (t + 1) S' := fun S' h => by
    refine ⟨h.lv, fun u e hu he => (h.opn u e hu he).1, fun u d hd => ?_, h.src, fun u d x e hd hf hx he => Int.le_trans (h.low u d hd hf) (h.opn x e hx he).2, fun u d hd hf hhs y r hm => ?_, h.cnt⟩
    · obtain ⟨a1, a2, a3, a4, a5⟩ := h.lab u d hd
      exact ⟨a1, a2, a3, by omega, a5⟩
    · by_cases e : u = v
      · subst e
        rw [h.me.1] at hd
        cases hd
        rw [h.me.2.2] at hhs
        have := h.seen ((u : Int), y, r) (by rw [if_pos hhs]; exact (hz.arcRow_mem u _).2 ⟨hm, rfl⟩)
        exact this
      · exact h.done u d e hd hf hhs y r hm
  unfold FS.step
  split
  · rename_i hlt
    have := MInv.all hz l3 l4 l1 l2 (arcRow zs (firstAt zs v) (firstAt zs (v + 1))) [] _ hM (fun a ha => (hz.arcRow_mem v a).1 ha)
    refine fin _ ?_
    rw [if_pos hlt]
    simpa using this
  · rename_i hlt
    refine fin _ ?_
    rw [if_neg hlt]
    exact hM
theorem steps_inv {n : Nat} {zs : List (Int × Int × Int)} {hb mo : Int} {s : Nat} {S0 : FS} (hz : Fine n zs) (h0 : SInv n zs hb s 0 S0) : ∀ (t : Nat) (S : FS), Steps n zs hb mo S0 t S → SInv n zs hb s t S
  | 0, S, h => by cases h; exact h0
  | t + 1, S, h => by
    obtain ⟨S1, v, k, h1, h2, _, rfl⟩ := h
    exact (steps_inv hz h0 t S1 h1).step hz h2
/-- the beginning. -/
theorem start_inv {n : Nat} {zs : List (Int × Int × Int)} {hb : Int} {s : Nat} (hs : s < n) (S : FS) (hv : S.vs = List.replicate n none) (hfz : S.f = fun _ => none) : SInv n zs hb s 0 (S.lab s 0 0 s) := by
  have hl : S.vs.length = n := by rw [hv, List.length_replicate]
  have hnone : ∀ (u : Nat) (d : Int), S.vs[u]? ≠ some (some d) := fun u d h => by
    rw [hv, List.getElem?_replicate] at h
    split at h
    · cases h
    · cases h
  have hss : (S.vs.set s (some (0 : Int)))[s]? = some (some 0) := by rw [List.getElem?_set]; simp [hl, hs]
  have hfx : ∀ u : Nat, Hp.upd S.f s (some 0) (u : Int) = if u = s then some 0 else none := fun u => by
    unfold Hp.upd
    by_cases e : u = s
    · rw [if_pos (by omega), if_pos e]
    · rw [if_neg (by omega), if_neg e, hfz]
  have hone : ∀ (u : Nat) (d : Int), (S.vs.set s (some (0 : Int)))[u]? = some (some d) → u = s ∧ d = 0 := fun u d h => by
    rcases set_get h with ⟨e, e2⟩ | ⟨_, h2⟩
    · cases e2; exact ⟨e, rfl⟩
    · exact absurd h2 (hnone u d)
  refine ⟨by show (S.vs.set s (some (0 : Int))).length = n; rw [List.length_set]; exact hl, fun u k hu h => ?_, fun u d hd => ?_, hss, fun u d x k hd h hx hk => ?_, fun u d hd h => ?_, ?_⟩
  · have h' : Hp.upd S.f s (some 0) (u : Int) = some k := h
    rw [hfx] at h'
    split at h'
    · rename_i e; subst e; cases h'; exact hss
    · cases h'
  · obtain ⟨rfl, rfl⟩ := hone u d hd
    show _ ∧ _ ≤ (if u = u then (0 : Int) else S.hs u) * 2147483647 ∧ 0 ≤ (if u = u then (0 : Int) else S.hs u) ∧ (if u = u then (0 : Int) else S.hs u) ≤ ((0 : Nat) : Int) ∧ _
    rw [if_pos rfl]
    exact ⟨by omega, by omega, by omega, by omega, 0, rfl, rfl⟩
  · obtain ⟨rfl, rfl⟩ := hone u d hd
    have h' : Hp.upd S.f u (some 0) (u : Int) = none := h
    rw [hfx, if_pos rfl] at h'
    cases h'
  · obtain ⟨rfl, rfl⟩ := hone u d hd
    have h' : Hp.upd S.f u (some 0) (u : Int) = none := h
    rw [hfx, if_pos rfl] at h'
    cases h'
  · unfold FS.cnt
    rw [List.countP_eq_zero]
    intro u hu hfx'
    rw [FS.fix_iff] at hfx'
    obtain ⟨⟨d, hd⟩, h⟩ := hfx'
    obtain ⟨rfl, _⟩ := hone u d hd
    have h' : Hp.upd S.f u (some 0) (u : Int) = none := h
    rw [hfx, if_pos rfl] at h'
    cases h'

/-- the distances from a node. -/
def IsDist (n : Nat) (zs : List (Int × Int × Int)) (s : Nat) (D : List Int) : Prop := D.length = n ∧ ∀ v : Nat, v < n → ∃ x, D[v]? = some x ∧ ((0 ≤ x ∧ x ≤ 140737488355328 ∧ Reach zs (s : Int) (v : Int) x ∧ ∀ e, Reach zs (s : Int) (v : Int) e → x ≤ e) ∨ (x = 18446744073709551615 ∧ ∀ e, ¬ Reach zs (s : Int) (v : Int) e))
theorem IsDist.unique {n : Nat} {zs : List (Int × Int × Int)} {s : Nat} {D E : List Int} (h : IsDist n zs s D) (k : IsDist n zs s E) : D = E := by
  apply List.ext_getElem?
  intro v
  rcases Nat.lt_or_ge v n with hv | hv
  · obtain ⟨x, hx, h1⟩ := h.2 v hv
    obtain ⟨y, hy, h2⟩ := k.2 v hv
    rw [hx, hy]
    congr 1
    rcases h1 with ⟨_, _, r1, m1⟩ | ⟨rfl, n1⟩ <;> rcases h2 with ⟨_, _, r2, m2⟩ | ⟨rfl, n2⟩
    · have := m1 y r2
      have := m2 x r1
      omega
    · exact absurd r1 (n2 _)
    · exact absurd r2 (n1 _)
    · rfl
  · rw [List.getElem?_eq_none (by rw [h.1]; exact hv), List.getElem?_eq_none (by rw [k.1]; exact hv)]
/-- what is told of a node. -/
def farOr (o : Option (Option Int)) : Int := match o with
  | some (some d) => d
  | _ => 18446744073709551615
theorem SInv.dist {n : Nat} {zs : List (Int × Int × Int)} {hb : Int} {s t : Nat} {S : FS} (hz : Fine n zs) (hI : SInv n zs hb s t S) (ht : t ≤ n) (hbig : (n : Int) < hb) (hno : ∀ d : Nat, d < n → S.f (d : Int) = none) : IsDist n zs s ((List.range n).map fun v => farOr S.vs[v]?) := by
  have hn := hz.few
  have hlen : ∀ (v : Nat) (d : Int), S.vs[v]? = some (some d) → v < n := fun v d h => by
    have := (List.getElem?_eq_some_iff.1 h).1
    rw [hI.lv] at this
    exact this
  have hle : ∀ (m : Nat) (v d : Int), ReachN zs (s : Int) m v d → 0 ≤ v ∧ ∃ e, S.vs[v.toNat]? = some (some e) ∧ e ≤ d := by
    intro m
    induction m with
    | zero =>
      rintro v d ⟨rfl, rfl⟩
      exact ⟨by omega, 0, by rw [Int.toNat_natCast]; exact hI.src, Int.le_refl _⟩
    | succ m ih =>
      rintro v d ⟨u, e, r, h1, h2, rfl⟩
      obtain ⟨hu, e', h3, h4⟩ := ih u e h1
      have hul := hlen _ _ h3
      have hb' := (hI.lab _ _ h3).2.2.2.1
      have hmem : ((u.toNat : Int), v, r) ∈ zs := by rw [show (u.toNat : Int) = u by omega]; exact h2
      have hends := hz.ends _ h2
      obtain ⟨f, h5, h6⟩ := hI.done u.toNat e' h3 (hno _ hul) (by omega) v r hmem
      simp only at hends
      exact ⟨by omega, f, h5, by omega⟩
  refine ⟨by simp, fun v hv => ⟨farOr S.vs[v]?, by rw [List.getElem?_map, List.getElem?_range hv]; rfl, ?_⟩⟩
  obtain ⟨o, ho⟩ : ∃ o, S.vs[v]? = some o := ⟨S.vs[v]'(by rw [hI.lv]; exact hv), List.getElem?_eq_getElem _⟩
  rw [ho]
  cases o with
  | none =>
    refine Or.inr ⟨rfl, fun e ⟨m, hm⟩ => ?_⟩
    obtain ⟨_, e', h, _⟩ := hle m v e hm
    rw [Int.toNat_natCast, ho] at h
    cases h
  | some d =>
    obtain ⟨a1, a2, a3, a4, a5⟩ := hI.lab v d ho
    refine Or.inl ⟨a1, ?_, a5, fun e ⟨m, hm⟩ => ?_⟩
    · have : S.hs v ≤ 65536 := by omega
      show d ≤ 140737488355328
      omega
    · obtain ⟨_, e', h, h2⟩ := hle m v e hm
      rw [Int.toNat_natCast, ho] at h
      cases h
      exact h2
end Go.Proofs.Ytefcmpdnlbpjpaa

namespace Go.Proofs.Ytefcmpdnlbpjpaa
open Go.RowKit Go.Extern

attribute [local go_sem] Oper.semAt_some

theorem least_unique {n : Nat} {f : Int → Option Int} {d e : Nat} {k j : Int} (h : Hp.Least n f d k) (g : Hp.Least n f e j) : d = e ∧ k = j := by
  have h1 := h.2.2 e j g.1 g.2.1
  have h2 := g.2.2 d k h.1 h.2.1
  unfold Hp.ltT at h1 h2
  simp only at h1 h2
  omega
/-- why a run ends. -/
def RunEnd (n : Nat) (se mo : Int) (t : Nat) (S : FS) : Prop := (¬ ((t : Int) < se) ∧ (t = 0 ∨ (t : Int) ≤ se)) ∨ ((∀ d : Nat, d < n → S.f (d : Int) = none) ∧ (t = 0 ∨ (t : Int) ≤ se)) ∨ ∃ v k, Hp.Least n S.f v k ∧ mo < k ∧ (t = 0 ∨ (t : Int) ≤ se)
/-- how it begins. -/
def FS.begin (n : Nat) (S : FS) (s : Nat) : FS := (⟨List.replicate n none, S.hs, S.ah, fun _ => none⟩ : FS).lab s 0 0 s
theorem steps_le {n : Nat} {zs : List (Int × Int × Int)} {hb mo : Int} {s : Nat} {S0 : FS} (hz : Fine n zs) (h0 : SInv n zs hb s 0 S0) {t : Nat} {S : FS} (h : Steps n zs hb mo S0 t S) : t ≤ n := by
  cases t with
  | zero => omega
  | succ t =>
    obtain ⟨S1, v, k, h1, h2, _, _⟩ := h
    exact (steps_inv hz h0 t S1 h1).lt h2

set_option maxRecDepth 100000 in
set_option maxHeartbeats 8000000 in
theorem run_calls {B : Nat} {w : World} {n : Nat} {L : FL} {fo uo wo : Option Addr} {fc tc wc : Nat} {zs : List (Int × Int × Int)} {sv : Value} {S : FS} (hF : Fnd B w n L (.slice fo (n + 1) fc) (.slice uo zs.length tc) (.slice wo zs.length wc) sv S) (hB : B ≤ w.heap.size) (hz : Fine n zs) (hC : ∀ wx, Below B w wx → CsrIn wx n zs fo uo wo fc tc wc) (s : Nat) (hs : s < n) (hb se mo : Int) :
    Calls Try.prog 25 #[.pointer (some ⟨L.fi, 0, none⟩), .int .i64 s, .agg #[.int .i64 hb, .int .i64 se, .int .u64 mo]] w fun e w' => e = .returned (.tuple #[]) ∧ (∃ sv' t S', Fnd B w' n L (.slice fo (n + 1) fc) (.slice uo zs.length tc) (.slice wo zs.length wc) sv' S' ∧ Fx L sv sv' w w' ∧ Steps n zs hb mo (S.begin n s) t S' ∧ RunEnd n se mo t S') ∧ Below B w w' := by
  have hn := hz.few
  obtain ⟨l1, l2, l3, l4, l5, l6, l7⟩ := hF.lts
  obtain ⟨W0, hW0⟩ : ∃ W0, w.alloc (.cells #[.int .i64 hb, .int .i64 se, .int .u64 mo] 68) = W0 := ⟨_, rfl⟩
  have HW0 : Hid (w.alloc (.cells #[.int .i64 hb, .int .i64 se, .int .u64 mo] 68) = W0) := hW0
  have hB0 : Below w.heap.size w W0 := by rw [← hW0]; exact (Below.refl _ w).alloc (Nat.le_refl _) _
  have hbx : W0.heap[w.heap.size]? = some (.cells #[.int .i64 hb, .int .i64 se, .int .u64 mo] 68) := by rw [← hW0]; exact heap_new _ _
  have hown : sv.ownBlock ≠ some w.heap.size := fun e => by have := hF.hp.lt.2.2 _ e; omega
  have HBX : Hid (∀ (sv' : Value) (wx : World), Fx L sv sv' W0 wx → (wx.cell? ⟨w.heap.size, 0, none⟩ = some (.int .i64 hb) ∧ wx.cell? ⟨w.heap.size, 1, none⟩ = some (.int .i64 se) ∧ wx.cell? ⟨w.heap.size, 2, none⟩ = some (.int .u64 mo)) ∧ w.heap.size < wx.heap.size) := fun sv' wx h => by
    have hg := (h.block _ (lt_of_get hbx) (by omega) (by omega) (by omega) (by omega) (by omega) (by omega) hown).trans hbx
    exact ⟨box3 hg, lt_of_get hg⟩
  have F0 : Hid (Fnd B W0 n L (.slice fo (n + 1) fc) (.slice uo zs.length tc) (.slice wo zs.length wc) sv S) := hF.below hB0
  have HB0 : Hid (Below w.heap.size w W0 ∧ B ≤ W0.heap.size) := ⟨hB0, Nat.le_trans hB hB0.size⟩
  have HUP : Hid (∀ sv' wx, Fx L sv sv' W0 wx → Below B w wx ∧ B ≤ wx.heap.size ∧ Fx L sv sv' w wx) := fun sv' wx h => by
    have h1 := Fx.below F0.out h HB0.out.2
    have h2 : Below B w W0 := hB0.mono hB
    exact ⟨h2.trans h1, Nat.le_trans HB0.out.2 h1.size, (Fx.of_below hB0).trans h⟩
  have HC : Hid (type_of% hC) := hC
  have HZ : Hid (Fine n zs) := hz
  have HI0 : Hid (SInv n zs hb s 0 (S.begin n s)) := start_inv hs _ rfl rfl
  obtain ⟨k0, k1, k2, k3, k4, k5, k6⟩ := hF.box7
  have kl := hF.lts.1
  clear hF hC hz hW0 hB0 hbx hown l1 l2 l3 l4 l5 l6 l7
  have HRS : Hid (type_of% (St.reset_calls F0.out.st)) := St.reset_calls F0.out.st
  go_enter Try.func25, Try.ntmps25
  go_wp2_with fail
  rw [HW0.out]
  refine HRS.out.mono ?_
  rintro e w1 ⟨rfl, h1, h2⟩
  have F1 : Hid (Fnd B w1 n L (.slice fo (n + 1) fc) (.slice uo zs.length tc) (.slice wo zs.length wc) sv { S with vs := List.replicate n none } ∧ Fx L sv sv W0 w1) := ⟨F0.out.stamped h1 h2, Fx.ofSt h2⟩
  clear h1 h2 k0 k1 k2 k3 k4 k5 k6 kl HRS
  obtain ⟨k0, k1, k2, k3, k4, k5, k6⟩ := F1.out.1.box7
  have kl := F1.out.1.lts.1
  have HCL : Hid (type_of% (Hp.clear_calls F1.out.1.hp)) := Hp.clear_calls F1.out.1.hp
  go_wp2_with fail
  refine HCL.out.mono ?_
  rintro e w2 ⟨rfl, sv2, h1, h2⟩
  have F2 : Hid (Fnd B w2 n L (.slice fo (n + 1) fc) (.slice uo zs.length tc) (.slice wo zs.length wc) sv2 ⟨List.replicate n none, S.hs, S.ah, fun _ => none⟩ ∧ Fx L sv sv2 W0 w2) := ⟨F1.out.1.heaped h1 h2 (HUP.out _ _ F1.out.2).2.1, F1.out.2.trans (Fx.ofHp h2)⟩
  clear h1 h2 k0 k1 k2 k3 k4 k5 k6 kl HCL
  have HLB : Hid (type_of% (label_calls F2.out.1 (HUP.out _ _ F2.out.2).2.1 s hs 0 0 s)) := label_calls F2.out.1 (HUP.out _ _ F2.out.2).2.1 s hs 0 0 s
  go_wp2_with fail
  refine HLB.out.mono ?_
  rintro e w3 ⟨rfl, ⟨sv3, h1, h2⟩, _⟩
  have F3 : Hid (Fnd B w3 n L (.slice fo (n + 1) fc) (.slice uo zs.length tc) (.slice wo zs.length wc) sv3 (S.begin n s) ∧ Fx L sv sv3 W0 w3) := ⟨h1, F2.out.2.trans h2⟩
  clear h1 h2 HLB F1 F2
  go_wp2_with fail
  go_loopw [6] (fun iv wr => ∃ t : Nat, (iv = .int .i64 t ∧ (t = 0 ∨ (t : Int) ≤ se)) ∧ ∃ sv' S', Fnd B wr n L (.slice fo (n + 1) fc) (.slice uo zs.length tc) (.slice wo zs.length wc) sv' S' ∧ Fx L sv sv' W0 wr ∧ Steps n zs hb mo (S.begin n s) t S') (fun iv _ => n + 1 - (intOf iv).toNat)
  case atStart => exact ⟨0, ⟨rfl, Or.inl rfl⟩, sv3, _, F3.out.1, F3.out.2, rfl⟩
  case round =>
    obtain ⟨t, ⟨rfl, htb⟩, sv1, S1, hF1, hX1, hS1⟩ := hrel
    have HTB : Hid (t = 0 ∨ (t : Int) ≤ se) := htb
    clear htb
    have G1 : Hid (Fnd B wr n L (.slice fo (n + 1) fc) (.slice uo zs.length tc) (.slice wo zs.length wc) sv1 S1 ∧ Fx L sv sv1 W0 wr ∧ Steps n zs hb mo (S.begin n s) t S1) := ⟨hF1, hX1, hS1⟩
    have HI : Hid (SInv n zs hb s t S1) := steps_inv HZ.out HI0.out t S1 hS1
    have htn : t ≤ n := steps_le HZ.out HI0.out hS1
    obtain ⟨⟨b0, b1, b2⟩, bl⟩ := HBX.out sv1 wr hX1
    obtain ⟨_, _, _, k3, k4, _, k6⟩ := hF1.box7
    have kl := hF1.lts.1
    have GE : Hid (RunEnd n se mo t S1 → (∃ sv' t S', Fnd B wr n L (.slice fo (n + 1) fc) (.slice uo zs.length tc) (.slice wo zs.length wc) sv' S' ∧ Fx L sv sv' w wr ∧ Steps n zs hb mo (S.begin n s) t S' ∧ RunEnd n se mo t S') ∧ Below B w wr) := fun h => ⟨⟨sv1, t, S1, G1.out.1, (HUP.out _ _ G1.out.2.1).2.2, G1.out.2.2, h⟩, (HUP.out _ _ G1.out.2.1).1⟩
    clear hF1 hX1 hS1
    by_cases hse : (t : Int) < se
    · by_cases hno : ∀ d : Nat, d < n → S1.f (d : Int) = none
      · have HTN : Hid (type_of% (Hp.top_none G1.out.1.hp hno)) := Hp.top_none G1.out.1.hp hno
        have GE2 : Hid (_ ∧ _) := GE.out (Or.inr (Or.inl ⟨hno, HTB.out⟩))
        clear hno
        go_wp2_with fail
        refine HTN.out.mono ?_
        rintro e w4 ⟨rfl, rfl⟩
        go_wp2
        exact bodyPost_ret (v := .tuple #[]) (by simp [results, Try.results25]) rfl ⟨rfl, GE2.out.1, GE2.out.2⟩
      · obtain ⟨d0, hd0, hf0⟩ : ∃ d0 : Nat, d0 < n ∧ S1.f (d0 : Int) ≠ none := by
          rcases Classical.em (∃ d0 : Nat, d0 < n ∧ S1.f (d0 : Int) ≠ none) with h | h
          · exact h
          · exact absurd (fun d hd => Classical.byContradiction fun e => h ⟨d, hd, e⟩) hno
        have HD0 : Hid (d0 < n ∧ S1.f (d0 : Int) ≠ none) := ⟨hd0, hf0⟩
        have HTS : Hid (type_of% (Hp.top_some G1.out.1.hp d0 hd0 hf0)) := Hp.top_some G1.out.1.hp d0 hd0 hf0
        clear hno hd0 hf0
        go_wp2_with fail
        refine HTS.out.mono ?_
        rintro e w4 ⟨v, k, rfl, hL, hb4⟩
        have G4 : Hid (Fnd B w4 n L (.slice fo (n + 1) fc) (.slice uo zs.length tc) (.slice wo zs.length wc) sv1 S1 ∧ Fx L sv sv1 W0 w4 ∧ Hp.Least n S1.f v k) := ⟨G1.out.1.below hb4, G1.out.2.1.trans (Fx.of_below hb4), hL⟩
        have hvn : v < n := hL.1
        have hlab := HI.out.lab v k (HI.out.opn v k hL.1 hL.2.1)
        have hk1 : 0 ≤ k := hlab.1
        have hk2 : k ≤ 140737488355328 := by have h1 := hlab.2.1; have h2 := hlab.2.2.2.1; omega
        have hh1 : 0 ≤ S1.hs v := hlab.2.2.1
        have hh2 : S1.hs v ≤ 1000000 := by have h2 := hlab.2.2.2.1; omega
        clear hL hb4 b0 b1 b2 bl k3 k4 k6 kl hlab HTS
        obtain ⟨⟨b0, b1, b2⟩, bl⟩ := HBX.out sv1 w4 G4.out.2.1
        obtain ⟨_, _, _, k3, k4, _, k6⟩ := G4.out.1.box7
        have kl := G4.out.1.lts.1
        by_cases hmo : mo < k
        · have GE4 : Hid ((∃ sv' t S', Fnd B w4 n L (.slice fo (n + 1) fc) (.slice uo zs.length tc) (.slice wo zs.length wc) sv' S' ∧ Fx L sv sv' w w4 ∧ Steps n zs hb mo (S.begin n s) t S' ∧ RunEnd n se mo t S') ∧ Below B w w4) := ⟨⟨sv1, t, S1, G4.out.1, (HUP.out _ _ G4.out.2.1).2.2, G1.out.2.2, Or.inr (Or.inr ⟨v, k, G4.out.2.2, hmo, HTB.out⟩)⟩, (HUP.out _ _ G4.out.2.1).1⟩
          go_wp2
          exact bodyPost_ret (v := .tuple #[]) (by simp [results, Try.results25]) rfl ⟨rfl, GE4.out.1, GE4.out.2⟩
        · have HPP : Hid (type_of% (Hp.pop_some G4.out.1.hp d0 HD0.out.1 HD0.out.2)) := Hp.pop_some G4.out.1.hp d0 HD0.out.1 HD0.out.2
          go_wp2_with fail
          refine HPP.out.mono ?_
          rintro e w5 ⟨v', k', rfl, hL', sv5, h1, h2⟩
          obtain ⟨rfl, rfl⟩ := least_unique G4.out.2.2 hL'
          have G5 : Hid (Fnd B w5 n L (.slice fo (n + 1) fc) (.slice uo zs.length tc) (.slice wo zs.length wc) sv5 (S1.pop v) ∧ Fx L sv sv5 W0 w5) := ⟨G4.out.1.heaped h1 h2 (HUP.out _ _ G4.out.2.1).2.1, G4.out.2.1.trans (Fx.ofHp h2)⟩
          clear hL' h1 h2 b0 b1 b2 bl k3 k4 k6 kl HPP
          obtain ⟨⟨b0, b1, b2⟩, bl⟩ := HBX.out sv5 w5 G5.out.2
          obtain ⟨_, _, _, k3, k4, _, k6⟩ := G5.out.1.box7
          have kl := G5.out.1.lts.1
          have q0 := G5.out.1.hops.cell hvn
          have ql := G5.out.1.lts.2.2.2.1
          have q0' : w5.cell? ⟨L.kb, v, none⟩ = some (.int .i64 (S1.hs v)) := q0
          have i1 : (v : Int) < (n : Int) := by omega
          have i2 : (0 : Int) ≤ (v : Int) := by omega
          have i3 : IntKind.i64.wrap (v : Int) = (v : Int) := by rw [IntKind.wrap_i64] <;> omega
          have HHS : Hid (∃ h, S1.hs v = h) := ⟨_, rfl⟩
          obtain ⟨h, hh⟩ := HHS.out
          rw [hh] at q0' hh1 hh2
          have HH : Hid (S1.hs v = h ∧ t < n) := ⟨hh, HI.out.lt G4.out.2.2⟩
          have htl : t < n := HH.out.2
          clear hh q0 HHS
          by_cases hlt : h < hb
          · go_wp2_with fail
            go_quiet (fail)
            have G6 : Hid (Fnd B (w5.drewN nq) n L (.slice fo (n + 1) fc) (.slice uo zs.length tc) (.slice wo zs.length wc) sv5 (S1.pop v) ∧ Fx L sv sv5 W0 (w5.drewN nq)) := ⟨G5.out.1.keep fun _ _ _ => rfl, G5.out.2.trans (Fx.of_below (below_drewN (Below.refl _ _) nq))⟩
            generalize w5.drewN nq = w6 at *
            clear b0 b1 b2 bl k3 k4 k6 kl q0' ql
            obtain ⟨u1, u2, u3⟩ := HUP.out _ _ G6.out.2
            have HLK : Hid (type_of% (lookFrom_calls G6.out.1 u2 HZ.out (fun wx hx => HC.out wx (u1.trans hx)) v hvn k h hk1 hk2 HH.out.1 hh1 hh2)) := lookFrom_calls G6.out.1 u2 HZ.out (fun wx hx => HC.out wx (u1.trans hx)) v hvn k h hk1 hk2 HH.out.1 hh1 hh2
            clear u1 u2 u3
            go_wp2_with fail
            refine HLK.out.mono ?_
            rintro e w7 ⟨rfl, ⟨sv7, h1, h2⟩, _⟩
            have G7 : Hid (Fnd B w7 n L (.slice fo (n + 1) fc) (.slice uo zs.length tc) (.slice wo zs.length wc) sv7 (S1.step zs hb v k) ∧ Fx L sv sv7 W0 w7) := ⟨by unfold FS.step; rw [HH.out.1, if_pos hlt]; exact h1, G6.out.2.trans h2⟩
            clear h1 h2 HLK
            go_wp2
            go_roundw
            case rel => exact ⟨t + 1, ⟨by go_num, Or.inr (by omega)⟩, sv7, _, G7.out.1, G7.out.2, S1, v, k, G1.out.2.2, G4.out.2.2, by omega, rfl⟩
            case measure => simp [intOf]; omega
          · go_wp2_with fail
            go_quiet (fail)
            have G6 : Hid (Fnd B (w5.drewN nq) n L (.slice fo (n + 1) fc) (.slice uo zs.length tc) (.slice wo zs.length wc) sv5 (S1.step zs hb v k) ∧ Fx L sv sv5 W0 (w5.drewN nq)) := ⟨by unfold FS.step; rw [HH.out.1, if_neg (by omega)]; exact G5.out.1.keep fun _ _ _ => rfl, G5.out.2.trans (Fx.of_below (below_drewN (Below.refl _ _) nq))⟩
            go_wp2
            go_roundw
            case rel => exact ⟨t + 1, ⟨by go_num, Or.inr (by omega)⟩, sv5, _, G6.out.1, G6.out.2, S1, v, k, G1.out.2.2, G4.out.2.2, by omega, rfl⟩
            case measure => simp [intOf]; omega
    · have GE2 : Hid (_ ∧ _) := GE.out (Or.inl ⟨hse, HTB.out⟩)
      go_wp2
      go_end0
      exact ⟨rfl, GE2.out.1, GE2.out.2⟩
end Go.Proofs.Ytefcmpdnlbpjpaa
