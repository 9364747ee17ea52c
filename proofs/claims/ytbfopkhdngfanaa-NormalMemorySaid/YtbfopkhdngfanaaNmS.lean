/- Graphs that were answered, each in memory of its own: what stays where one of them is written. -/
import Derived.Test.YtbfopkhdngfanaaNmA
import Derived.Test.YtbfopkhdngfanaaKe
import Derived.Test.YtbfopkhdngfanaaAwake
namespace Go.Proofs.Ytbfopkhdngfanaa
open Go.RowKit Go.Extern

/-- a graph that was answered: its nodes, where its arcs lie, and what they are. -/
structure GR where
  K : Int
  lo : Option Addr
  lc : Nat
  Y : List (Int × Int × Int)
/-- the cells of a list of graphs. -/
def gcells (L : List GR) : List Value := L.flatMap fun r => [.int .i64 r.K, .slice r.lo r.Y.length r.lc]
theorem gcells_len (L : List GR) : (gcells L).length = L.length * 2 := by
  induction L with
  | nil => rfl
  | cons a r ih => simp only [gcells, List.flatMap_cons, List.length_append, List.length_cons] at *; simp only [List.length_nil]; omega
theorem gcells_append (L M : List GR) : gcells (L ++ M) = gcells L ++ gcells M := by simp [gcells]
theorem gcells_at : ∀ (L : List GR) (j : Nat) (r : GR), L[j]? = some r → (gcells L)[j * 2]? = some (.int .i64 r.K) ∧ (gcells L)[j * 2 + 1]? = some (.slice r.lo r.Y.length r.lc)
  | [], j, r, h => by simp at h
  | a :: t, 0, r, h => by
    simp at h
    subst h
    simp [gcells]
  | a :: t, j + 1, r, h => by
    have ih := gcells_at t j r (by simpa using h)
    have e : gcells (a :: t) = .int .i64 a.K :: .slice a.lo a.Y.length a.lc :: gcells t := by simp [gcells]
    rw [e, show (j + 1) * 2 = j * 2 + 1 + 1 by omega, show j * 2 + 1 + 1 + 1 = (j * 2 + 1) + 1 + 1 by omega]
    simp only [List.getElem?_cons_succ]
    exact ih
theorem gcells_one (L : List GR) : ∀ u ∈ gcells L, u.oneCell' = true := by
  intro u hu
  simp only [gcells, List.mem_flatMap] at hu
  obtain ⟨r, _, hr⟩ := hu
  simp at hr
  rcases hr with rfl | rfl <;> rfl
/-- two lists don't share a block. -/
def FarOff (a b : Option Addr) : Prop := ∀ x y, a = some x → b = some y → x.block ≠ y.block
section
variable {B B' : Nat} {w w' : World} {lo ro : Option Addr} {n lc n' lc' : Nat} {ys : List (Int × Int × Int)}
theorem OA.stay (h : OA B w lo n lc ys) (hk : ∀ b, lo = some ⟨b, 0, none⟩ → b < w.heap.size → w'.heap[b]? = w.heap[b]?) (hs : w.heap.size ≤ w'.heap.size) : OA B w' lo n lc ys := by
  obtain ⟨⟨ao, cap, e, hc⟩, ho⟩ := h
  injection e with e1 e2 e3
  subst e1
  subst e3
  have hO : OwnS B w' lo n lc := by
    rcases ho with ho | ⟨b, c, h1, h2, h3, h4, h5, h6⟩
    · exact Or.inl ho
    · exact Or.inr ⟨b, c, h1, h2, h3, h4, (hk b h1 (lt_of_get h5)).trans h5, h6⟩
  refine ⟨⟨lo, lc, by rw [e2], fun j a hj => ?_⟩, hO⟩
  obtain ⟨b, off, ea, hl, q0, q1, q2⟩ := hc j a hj
  rcases ho with ⟨h1, _⟩ | ⟨b', c, h1, _⟩
  · rw [h1] at ea; cases ea
  · rw [h1] at ea
    cases ea
    have hb := hk b h1 hl
    exact ⟨b, 0, h1, Nat.lt_of_lt_of_le hl hs, (World.cell?_of_block (w := w) (a := ⟨b, _, none⟩) hb).trans q0, (World.cell?_of_block (w := w) (a := ⟨b, _, none⟩) hb).trans q1, (World.cell?_of_block (w := w) (a := ⟨b, _, none⟩) hb).trans q2⟩
theorem OA.keep (h : OA B w lo n lc ys) (hb : Below w.heap.size w w') : OA B w' lo n lc ys := h.stay (fun b _ hl => hb.block b hl) hb.size
theorem own_apart (h : OwnS B w lo n lc) (h' : OwnS B' w' ro n' lc') (hle : w.heap.size ≤ B') : FarOff lo ro := by
  intro x y e1 e2
  rcases h with ⟨h1, _⟩ | ⟨b, c, h1, _, _, _, h5, _⟩
  · rw [h1] at e1; cases e1
  · rcases h' with ⟨k1, _⟩ | ⟨b', c', k1, k2, _⟩
    · rw [k1] at e2; cases e2
    · rw [h1] at e1
      rw [k1] at e2
      cases e1
      cases e2
      have := lt_of_get h5
      show b ≠ b'
      omega
theorem OwnS.blk (h : OwnS B w lo n lc) {k : Nat} (hk : (Value.slice lo n lc).ownBlock = some k) : ∃ c, lo = some ⟨k, 0, none⟩ ∧ B ≤ k ∧ w.heap[k]? = some (.cells c 42) := by
  rcases h with ⟨h1, _⟩ | ⟨b, c, h1, h2, _, _, h5, _⟩
  · rw [h1] at hk; cases hk
  · rw [h1] at hk
    cases hk
    exact ⟨c, h1, h2, h5⟩
theorem OwnS.row (h : OwnS B w lo n lc) : ∃ zs, w.ownsRow B 42 3 (.slice lo n lc) n zs := by
  rcases h with ⟨h1, h2, h3⟩ | ⟨b, c, h1, h2, h3, h4, h5, h6⟩
  · subst h1
    subst h2
    subst h3
    exact ⟨[], World.ownsRow_nil _ _ _ _⟩
  · subst h1
    exact ⟨c.toList.take (n * 3), by rw [List.length_take, Array.length_toList, h6]; exact Nat.min_eq_left (Nat.mul_le_mul_right 3 h3), .inr ⟨b, lc, c, rfl, h2, h5, h3, h4, h6, rfl⟩⟩
end
/-- what is the same but for some blocks. -/
structure Stay (R : Nat → Prop) (W wx : World) : Prop where
  os : wx.os = W.os
  tape : wx.tape = W.tape
  output : wx.output = W.output
  size : W.heap.size ≤ wx.heap.size
  block : ∀ k, k < W.heap.size → ¬ R k → wx.heap[k]? = W.heap[k]?
theorem Stay.refl (R : Nat → Prop) (W : World) : Stay R W W := ⟨rfl, rfl, rfl, Nat.le_refl _, fun _ _ _ => rfl⟩
theorem Stay.grown {R : Nat → Prop} {W wx wy : World} {row : Option Nat} (h : Stay R W wx) (hg : wx.grownBy wy row) (hr : ∀ k, some k = row → R k) : Stay R W wy :=
  ⟨hg.os.trans h.os, hg.tape.trans h.tape, hg.output.trans h.output, Nat.le_trans h.size hg.size, fun k hk hn => (hg.block k (Nat.lt_of_lt_of_le hk h.size) fun e => hn (hr k e)).trans (h.block k hk hn)⟩
theorem Stay.later {R : Nat → Prop} {W wx wy : World} (h : Stay R W wx) (hb : Below wx.heap.size wx wy) : Stay R W wy :=
  ⟨hb.os.trans h.os, hb.tape.trans h.tape, hb.output.trans h.output, Nat.le_trans h.size hb.size, fun k hk hn => (hb.block k (Nat.lt_of_lt_of_le hk h.size)).trans (h.block k hk hn)⟩
theorem Stay.below {w W wx : World} {R : Nat → Prop} (hb : Below w.heap.size w W) (h : Stay R W wx) (hr : ∀ k, R k → w.heap.size ≤ k) : Below w.heap.size w wx :=
  ⟨h.os.trans hb.os, h.tape.trans hb.tape, h.output.trans hb.output, Nat.le_trans hb.size h.size, fun k hk => (h.block k (Nat.lt_of_lt_of_le hk hb.size) fun e => absurd (hr k e) (by omega)).trans (hb.block k hk)⟩
theorem btrN {w wm wy : World} (h1 : Below w.heap.size w wm) (h2 : Below wm.heap.size wm wy) : Below w.heap.size w wy := h1.trans (h2.mono h1.size)
theorem grown_trans {w1 w2 w3 : World} {row : Option Nat} (h1 : w1.grownBy w2 row) (h2 : w2.grownBy w3 row) : w1.grownBy w3 row :=
  ⟨h2.os.trans h1.os, h2.tape.trans h1.tape, h2.output.trans h1.output, Nat.le_trans h1.size h2.size, fun k hk hn => (h2.block k (Nat.lt_of_lt_of_le hk h1.size) hn).trans (h1.block k hk hn)⟩
theorem grown_alloc (w : World) (o : Obj) (row : Option Nat) : w.grownBy (w.alloc o) row := ⟨rfl, rfl, rfl, (below_new3 w o).size, fun k hk _ => (below_new3 w o).block k hk⟩
/-- graphs that were answered, each in memory of its own. -/
structure Coll (B : Nat) (W : World) (L : List GR) (i : Nat) : Prop where
  rows : ∀ (j : Nat) (r : GR), i ≤ j → L[j]? = some r → OA B W r.lo r.Y.length r.lc r.Y
  far : ∀ (j k : Nat) (r s : GR), j ≠ k → L[j]? = some r → L[k]? = some s → FarOff r.lo s.lo
theorem FarOff.symm {a b : Option Addr} (h : FarOff a b) : FarOff b a := fun x y e1 e2 e => h y x e2 e1 e.symm
theorem Coll.nil (B : Nat) (W : World) : Coll B W [] 0 := ⟨fun j r _ h => by simp at h, fun j k r s _ h => by simp at h⟩
theorem Coll.keep {B i : Nat} {W W' : World} {L : List GR} (h : Coll B W L i) (hb : Below W.heap.size W W') : Coll B W' L i := ⟨fun j r hj hr => (h.rows j r hj hr).keep hb, h.far⟩
/-- the blocks of the graphs. -/
def RL (L : List GR) (k : Nat) : Prop := ∃ (j : Nat) (r : GR), L[j]? = some r ∧ (Value.slice r.lo r.Y.length r.lc).ownBlock = some k
theorem Coll.add {B : Nat} {W W' : World} {L : List GR} {K : Int} {lo : Option Addr} {lc : Nat} {Y : List (Int × Int × Int)} (h : Coll B W L 0) (hb : Below W.heap.size W W') (ho : OA W.heap.size W' lo Y.length lc Y) (hB : B ≤ W.heap.size) : Coll B W' (L ++ [⟨K, lo, lc, Y⟩]) 0 := by
  have key : ∀ (j : Nat) (r : GR), (L ++ [⟨K, lo, lc, Y⟩])[j]? = some r → (j < L.length ∧ L[j]? = some r) ∨ (j = L.length ∧ r = ⟨K, lo, lc, Y⟩) := fun j r hr => by
    rcases Nat.lt_or_ge j L.length with hj | hj
    · exact Or.inl ⟨hj, by rw [List.getElem?_append_left hj] at hr; exact hr⟩
    · rw [List.getElem?_append_right hj] at hr
      rcases Nat.eq_or_lt_of_le hj with e | e
      · subst e
        simp at hr
        exact Or.inr ⟨rfl, hr.symm⟩
      · rw [List.getElem?_eq_none (by simp; omega)] at hr
        cases hr
  refine ⟨fun j r hj hr => ?_, fun j k r s hne hr hs => ?_⟩
  · rcases key j r hr with ⟨_, h1⟩ | ⟨_, rfl⟩
    · exact (h.rows j r hj h1).keep hb
    · exact ⟨ho.1, ho.2.base hB⟩
  · rcases key j r hr with ⟨_, h1⟩ | ⟨e1, rfl⟩
    · rcases key k s hs with ⟨_, h2⟩ | ⟨_, rfl⟩
      · exact h.far j k r s hne h1 h2
      · exact own_apart (h.rows j r (Nat.zero_le _) h1).2 ho.2 (Nat.le_refl _)
    · rcases key k s hs with ⟨_, h2⟩ | ⟨e2, rfl⟩
      · exact (own_apart (h.rows k s (Nat.zero_le _) h2).2 ho.2 (Nat.le_refl _)).symm
      · omega
/-- a row of another kind is written: the graphs stay. -/
theorem Coll.grow {B B' m s i : Nat} {W W' : World} {L : List GR} {v : Value} {zs : List Value} {T : TypeId} (h : Coll B W L i) (hr : W.ownsRow B' T s v m zs) (hT : T ≠ 42) (hg : W.grownBy W' v.ownBlock) : Coll B W' L i := by
  refine ⟨fun j r hj hl => (h.rows j r hj hl).stay (fun b e hlt => hg.block b hlt fun e2 => ?_) hg.size, h.far⟩
  rcases (h.rows j r hj hl).2 with ⟨h1, _⟩ | ⟨b', c, h1, _, _, _, h5, _⟩
  · rw [h1] at e; cases e
  · rw [h1] at e
    cases e
    rcases hr.2 with ⟨rfl, _⟩ | ⟨g, cap, cur, rfl, _, hh, _⟩
    · cases e2
    · cases e2
      rw [hh] at h5
      injection h5 with q
      injection q with _ q2
      exact hT q2
/-- an older block is written: the graphs stay. -/
theorem Coll.old {B i : Nat} {W W' : World} {L : List GR} {g : Nat} (h : Coll B W L i) (hg : W.grownBy W' (some g)) (hb : g < B) : Coll B W' L i := by
  refine ⟨fun j r hj hl => (h.rows j r hj hl).stay (fun b e hlt => hg.block b hlt fun e2 => ?_) hg.size, h.far⟩
  rcases (h.rows j r hj hl).2 with ⟨h1, _⟩ | ⟨b', c, h1, h2, _⟩
  · rw [h1] at e; cases e
  · rw [h1] at e
    cases e
    have := Option.some.inj e2
    omega
/-- one of the graphs is written: those behind it stay. -/
theorem Coll.next {B i : Nat} {W W' : World} {L : List GR} {r : GR} (h : Coll B W L i) (hr : L[i]? = some r) (hg : W.grownBy W' (Value.slice r.lo r.Y.length r.lc).ownBlock) : Coll B W' L (i + 1) := by
  refine ⟨fun j s hj hl => (h.rows j s (by omega) hl).stay (fun b e hlt => hg.block b hlt fun e2 => ?_) hg.size, h.far⟩
  obtain ⟨c, e3, _, _⟩ := (h.rows i r (Nat.le_refl _) hr).2.blk e2.symm
  exact h.far i j r s (by omega) hr hl _ _ e3 e rfl
theorem Coll.new {B : Nat} {W : World} {L : List GR} (h : Coll B W L 0) {k : Nat} (hk : RL L k) : B ≤ k ∧ ∃ c, W.heap[k]? = some (.cells c 42) := by
  obtain ⟨j, r, hr, e⟩ := hk
  obtain ⟨c, _, h2, h3⟩ := (h.rows j r (Nat.zero_le _) hr).2.blk e
  exact ⟨h2, c, h3⟩
theorem Coll.box {B : Nat} {W : World} {L : List GR} (h : Coll B W L 0) {b : Nat} {c : Array Value} {T : TypeId} (hb : W.heap[b]? = some (.cells c T)) (hT : T ≠ 42) : ¬ RL L b := fun hk => by
  obtain ⟨_, c', hc⟩ := h.new hk
  rw [hb] at hc
  injection hc with q
  injection q with _ q2
  exact hT q2
theorem infoG : ∃ i, Try.prog.info? 24 = some i ∧ i.zero = some (.agg #[.int .i64 0, .slice none 0 0]) ∧ i.size = 2 ∧ i.bytes = 32 := by
  have h : (Try.prog.info? 24).map (fun i => (i.zero, i.size, i.bytes)) = some (some (.agg #[.int .i64 0, .slice none 0 0]), 2, 32) := by kernel_rfl
  cases hi : Try.prog.info? 24 with
  | none => rw [hi] at h; cases h
  | some i => rw [hi] at h; simp at h; exact ⟨i, rfl, h.1, h.2.1, h.2.2⟩
theorem infoA : ∃ i, Try.prog.info? 42 = some i ∧ i.zero = some (.agg #[.int .i64 0, .int .i64 0, .int .i64 0]) ∧ i.size = 3 ∧ i.bytes = 24 := by
  have h := Try.infoC
  cases hi : Try.prog.info? 42 with
  | none => rw [hi] at h; cases h
  | some i => rw [hi] at h; simp at h; exact ⟨i, rfl, h.1, h.2.1, h.2.2⟩
theorem rowG_keep {w w' : World} {base n : Nat} {xs : List Value} {v : Value} (h : w.ownsRow base 24 2 v n xs) (hk : Below w.heap.size w w') : w'.ownsRow base 24 2 v n xs := by
  obtain ⟨h1, h2⟩ := h
  refine ⟨h1, ?_⟩
  rcases h2 with h2 | ⟨g, cap, cur, e, hb, hh, r⟩
  · exact Or.inl h2
  · exact Or.inr ⟨g, cap, cur, e, hb, (hk.block g (lt_of_get hh)).trans hh, r⟩
theorem rowG_slice {w : World} {base n : Nat} {xs : List Value} {v : Value} (h : w.ownsRow base 24 2 v n xs) : ∃ ao cap, v = .slice ao n cap := by
  rcases h.2 with ⟨e, h0⟩ | ⟨g, cap, cur, e, _⟩
  · exact ⟨none, 0, by rw [h0]; exact e⟩
  · exact ⟨_, cap, e⟩
theorem belowG_grown {w0 w w' : World} {base n : Nat} {xs : List Value} {v : Value} (hb : Below base w0 w) (h : w.ownsRow base 24 2 v n xs) (hg : w.grownBy w' v.ownBlock) (hs : base ≤ w.heap.size) : Below base w0 w' :=
  hb.trans ⟨hg.os, hg.tape, hg.output, hg.size, fun j hj => hg.block j (Nat.lt_of_lt_of_le hj hs) (fun e => by have := (h.lt j e.symm).1; omega)⟩
theorem box2N {w : World} {b : Nat} {c0 c1 : Value} {T : TypeId} (h : w.heap[b]? = some (.cells #[c0, c1] T)) : w.cell? ⟨b, 0, none⟩ = some c0 ∧ w.cell? ⟨b, 1, none⟩ = some c1 ∧ b < w.heap.size := ⟨(cell_two h).1, (cell_two h).2.1, lt_of_get h⟩
theorem lit_cells (w : World) (a : Array Value) (l : List Value) (e : a.toList = l) {T : TypeId} : ∀ j u, l[j]? = some u → (w.alloc (.cells a T)).cell? ((⟨w.heap.size, 0, none⟩ : Addr).add j) = some u := fun j u hj => by
  subst e
  have hg := heap_new w (.cells a T)
  rw [Addr.add_lit, Nat.zero_add]
  generalize w.alloc (.cells a T) = W at hg ⊢
  simp only [World.cell?, hg]
  rw [if_neg (by simp)]
  simpa using hj
theorem btrG {w wm wy : World} {g : Nat} (h1 : Below w.heap.size w wm) (h2 : wm.grownBy wy (some g)) (hg : w.heap.size ≤ g) : Below w.heap.size w wy :=
  h1.trans ⟨h2.os, h2.tape, h2.output, h2.size, fun k hk => h2.block k (Nat.lt_of_lt_of_le hk h1.size) (fun e => by have := Option.some.inj e; omega)⟩
theorem rowG_old {w w' : World} {base n g : Nat} {xs : List Value} {v : Value} (h : w.ownsRow base 24 2 v n xs) (hg : w.grownBy w' (some g)) (hb : g < base) : w'.ownsRow base 24 2 v n xs := by
  obtain ⟨h1, h2⟩ := h
  refine ⟨h1, ?_⟩
  rcases h2 with h2 | ⟨k, cap, cur, e, hk, hh, r⟩
  · exact Or.inl h2
  · exact Or.inr ⟨k, cap, cur, e, hk, (hg.block k (lt_of_get hh) (fun e => by have := Option.some.inj e; omega)).trans hh, r⟩
theorem arcs_stayN {W wx : World} {B : Nat} {v : Value} {ys : List (Int × Int × Int)} (h : HasArcs W v ys) (hn : NewA B v) (hk : ∀ b, B ≤ b → b < W.heap.size → wx.heap[b]? = W.heap[b]?) (hs : W.heap.size ≤ wx.heap.size) : HasArcs wx v ys := by
  obtain ⟨ao, cap, e, hc⟩ := h
  refine ⟨ao, cap, e, fun j a hj => ?_⟩
  obtain ⟨b, off, ea, hl, q0, q1, q2⟩ := hc j a hj
  have hb := hk b (hn b off _ _ (by rw [e, ea])) hl
  exact ⟨b, off, ea, Nat.lt_of_lt_of_le hl hs, (World.cell?_of_block (w := W) (a := ⟨b, _, none⟩) hb).trans q0, (World.cell?_of_block (w := W) (a := ⟨b, _, none⟩) hb).trans q1, (World.cell?_of_block (w := W) (a := ⟨b, _, none⟩) hb).trans q2⟩
end Go.Proofs.Ytbfopkhdngfanaa
