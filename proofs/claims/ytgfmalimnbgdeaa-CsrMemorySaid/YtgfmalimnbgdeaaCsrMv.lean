/- What CsrMemory writes into: five rows of its own; what else lies in memory stays. The law CsrMemory, walked: at every graph it answers true, and nothing old turns. -/
import Derived.Test.YtgfmalimnbgdeaaCsrMa
import Derived.Test.YtgfmalimnbgdeaaCsrSk
import Derived.Test.YtgfmalimnbgdeaaCsrWake
import Derived.ArgAppend
import Derived.Deep.RegionWith
import Derived.Deep.RegionHeld3
namespace Go.Proofs.Ytgfmalimnbgdeaa
open Go.RowKit Go.Extern

section
variable {w w' : World} {B B' n n' s s' : Nat} {T T' : TypeId} {v v' : Value} {xs xs' : List Value}
/-- two rows of unlike kinds don't share a block. -/
theorem row_ne {k : Nat} (h : w.ownsRow B T s v n xs) (h' : w.ownsRow B' T' s' v' n' xs') (hT : T ≠ T') (hk : v.ownBlock = some k) : some k ≠ v'.ownBlock := by
  rcases h.2 with ⟨rfl, _⟩ | ⟨g, cap, cur, rfl, _, hg, _⟩
  · cases hk
  · rcases h'.2 with ⟨rfl, _⟩ | ⟨g', cap', cur', rfl, _, hg', _⟩
    · intro e; cases e
    · intro e
      cases hk
      cases e
      rw [hg] at hg'
      injection hg' with e1
      injection e1 with _ e2
      exact hT e2
theorem box_ne {b : Nat} {c : Array Value} (h : w.ownsRow B T s v n xs) (hb : w.heap[b]? = some (.cells c T')) (hT : T' ≠ T) : some b ≠ v.ownBlock := by
  rcases h.2 with ⟨rfl, _⟩ | ⟨g, cap, cur, rfl, _, hg, _⟩
  · intro e; cases e
  · intro e
    cases e
    rw [hb] at hg
    injection hg with e1
    injection e1 with _ e2
    exact hT e2
theorem row_stay (h : w.ownsRow B T s v n xs) (hk : ∀ k, k < w.heap.size → v.ownBlock = some k → w'.heap[k]? = w.heap[k]?) : w'.ownsRow B T s v n xs := by
  refine ⟨h.1, ?_⟩
  rcases h.2 with hn | ⟨g, cap, cur, rfl, hb, hg, rest⟩
  · exact .inl hn
  · exact .inr ⟨g, cap, cur, rfl, hb, (hk g (lt_of_get hg) rfl).trans hg, rest⟩
theorem row_lt {k : Nat} (h : w.ownsRow B T s v n xs) (hk : v.ownBlock = some k) : B ≤ k ∧ k < w.heap.size := by
  rcases h.2 with ⟨rfl, _⟩ | ⟨g, cap, cur, rfl, hb, hg, _⟩
  · cases hk
  · cases hk
    exact ⟨hb, lt_of_get hg⟩
theorem row_base (h : w.ownsRow B' T s v n xs) (hb : B ≤ B') : w.ownsRow B T s v n xs := by
  refine ⟨h.1, ?_⟩
  rcases h.2 with hn | ⟨g, cap, cur, hv, hg, rest⟩
  · exact .inl hn
  · exact .inr ⟨g, cap, cur, hv, Nat.le_trans hb hg, rest⟩
end
theorem OwnI.row {B : Nat} {w : World} {ao : Option Addr} {l : List Int} (h : OwnI B w ao l) (hm : l.length ≤ maxLen) : w.ownsRow B 3 1 (.slice ao l.length l.length) l.length (iv l) := by
  rcases h with ⟨rfl, rfl⟩ | ⟨g, rfl, hB, hg⟩
  · exact World.ownsRow_nil _ _ _ _
  · exact ⟨by simp [iv], .inr ⟨g, l.length, _, rfl, hB, hg, Nat.le_refl _, hm, by simp, by rw [Nat.mul_one]; exact List.take_of_length_le (by simp)⟩⟩
/-- the block of a slice. -/
def blk (o : Option Addr) (n c : Nat) : Option Nat := (Value.slice o n c).ownBlock
theorem apart_blk {a b : Option Addr} {n c n' c' k : Nat} (h : FarOff a b) (hk : (Value.slice a n c).ownBlock = some k) : some k ≠ (Value.slice b n' c').ownBlock := by
  cases a with
  | none => cases hk
  | some x =>
    cases b with
    | none => intro e; cases e
    | some y =>
      intro e
      cases hk
      have e2 : x.block = y.block := Option.some.inj e
      exact h x y rfl rfl e2
theorem FarOff.symm {a b : Option Addr} (h : FarOff a b) : FarOff b a := fun x y e1 e2 e => h y x e2 e1 e.symm

/-- what is the same but for some blocks. -/
structure Stay (R : Nat → Prop) (W wx : World) : Prop where
  os : wx.os = W.os
  tape : wx.tape = W.tape
  output : wx.output = W.output
  size : W.heap.size ≤ wx.heap.size
  block : ∀ k, k < W.heap.size → ¬ R k → wx.heap[k]? = W.heap[k]?
theorem Stay.refl (R : Nat → Prop) (W : World) : Stay R W W := ⟨rfl, rfl, rfl, Nat.le_refl _, fun _ _ _ => rfl⟩
theorem Stay.grown {R : Nat → Prop} {W wx wy : World} {row : Option Nat} (h : Stay R W wx) (hg : wx.grownBy wy row) (hr : ∀ k, some k = row → R k) : Stay R W wy :=
  ⟨hg.os.trans h.os, hg.tape.trans h.tape, hg.output.trans h.output, Nat.le_trans h.size hg.size, fun k hk hn => (hg.block k (Nat.lt_of_lt_of_le hk h.size) fun e => hn (hr k e)).trans (h.block k hk hn)⟩
/-- the blocks of the five rows. -/
def Row5 (fo uo wo lo ro : Option Addr) (fl ul wl ll lc rl rc : Nat) (k : Nat) : Prop := some k = (Value.slice fo fl fl).ownBlock ∨ some k = (Value.slice uo ul ul).ownBlock ∨ some k = (Value.slice wo wl wl).ownBlock ∨ some k = (Value.slice lo ll lc).ownBlock ∨ some k = (Value.slice ro rl rc).ownBlock
/-- the number that is written. -/
def m7 : Value := .int .i64 (-7)
/-- the five rows. -/
structure M5 (B : Nat) (fo uo wo lo ro : Option Addr) (fl ul wl ll lc rl rc : Nat) (q : Prop) (wr : World) : Prop where
  f : ∃ z, wr.ownsRow B 3 1 (.slice fo fl fl) fl z ∧ (q → z = List.replicate fl m7)
  u : ∃ z, wr.ownsRow B 3 1 (.slice uo ul ul) ul z
  v : ∃ z, wr.ownsRow B 3 1 (.slice wo wl wl) wl z
  h : ∃ z, wr.ownsRow B 46 3 (.slice lo ll lc) ll z
  r : ∃ z, wr.ownsRow B 46 3 (.slice ro rl rc) rl z
  fu : FarOff fo uo
  fv : FarOff fo wo
  uv : FarOff uo wo
  hr : FarOff lo ro
  fs : fl ≤ 262144
  us : ul ≤ 262144
  vs : wl ≤ 262144
  hs : ll ≤ 262144
  rs : rl ≤ 262144
section
variable {B : Nat} {fo uo wo lo ro : Option Addr} {fl ul wl ll lc rl rc : Nat} {q q' : Prop} {wr w' : World} {z : List Value}
theorem M5.setF (h : M5 B fo uo wo lo ro fl ul wl ll lc rl rc q wr) (hg : wr.grownBy w' (Value.slice fo fl fl).ownBlock) (ho : w'.ownsRow B 3 1 (.slice fo fl fl) fl z) (hq : q' → z = List.replicate fl m7) : M5 B fo uo wo lo ro fl ul wl ll lc rl rc q' w' := by
  obtain ⟨z0, h0, _⟩ := h.f
  obtain ⟨z1, h1⟩ := h.u
  obtain ⟨z2, h2⟩ := h.v
  obtain ⟨z3, h3⟩ := h.h
  obtain ⟨z4, h4⟩ := h.r
  exact ⟨⟨z, ho, hq⟩, ⟨z1, row_stay h1 fun k hk e => hg.block k hk (apart_blk h.fu.symm e)⟩, ⟨z2, row_stay h2 fun k hk e => hg.block k hk (apart_blk h.fv.symm e)⟩, ⟨z3, row_stay h3 fun k hk e => hg.block k hk (row_ne h3 h0 (by decide) e)⟩, ⟨z4, row_stay h4 fun k hk e => hg.block k hk (row_ne h4 h0 (by decide) e)⟩, h.fu, h.fv, h.uv, h.hr, h.fs, h.us, h.vs, h.hs, h.rs⟩
theorem M5.setU (h : M5 B fo uo wo lo ro fl ul wl ll lc rl rc q wr) (hg : wr.grownBy w' (Value.slice uo ul ul).ownBlock) (ho : w'.ownsRow B 3 1 (.slice uo ul ul) ul z) : M5 B fo uo wo lo ro fl ul wl ll lc rl rc q w' := by
  obtain ⟨z0, h0, hq⟩ := h.f
  obtain ⟨z1, h1⟩ := h.u
  obtain ⟨z2, h2⟩ := h.v
  obtain ⟨z3, h3⟩ := h.h
  obtain ⟨z4, h4⟩ := h.r
  exact ⟨⟨z0, row_stay h0 fun k hk e => hg.block k hk (apart_blk h.fu e), hq⟩, ⟨z, ho⟩, ⟨z2, row_stay h2 fun k hk e => hg.block k hk (apart_blk h.uv.symm e)⟩, ⟨z3, row_stay h3 fun k hk e => hg.block k hk (row_ne h3 h1 (by decide) e)⟩, ⟨z4, row_stay h4 fun k hk e => hg.block k hk (row_ne h4 h1 (by decide) e)⟩, h.fu, h.fv, h.uv, h.hr, h.fs, h.us, h.vs, h.hs, h.rs⟩
theorem M5.setV (h : M5 B fo uo wo lo ro fl ul wl ll lc rl rc q wr) (hg : wr.grownBy w' (Value.slice wo wl wl).ownBlock) (ho : w'.ownsRow B 3 1 (.slice wo wl wl) wl z) : M5 B fo uo wo lo ro fl ul wl ll lc rl rc q w' := by
  obtain ⟨z0, h0, hq⟩ := h.f
  obtain ⟨z1, h1⟩ := h.u
  obtain ⟨z2, h2⟩ := h.v
  obtain ⟨z3, h3⟩ := h.h
  obtain ⟨z4, h4⟩ := h.r
  exact ⟨⟨z0, row_stay h0 fun k hk e => hg.block k hk (apart_blk h.fv e), hq⟩, ⟨z1, row_stay h1 fun k hk e => hg.block k hk (apart_blk h.uv e)⟩, ⟨z, ho⟩, ⟨z3, row_stay h3 fun k hk e => hg.block k hk (row_ne h3 h2 (by decide) e)⟩, ⟨z4, row_stay h4 fun k hk e => hg.block k hk (row_ne h4 h2 (by decide) e)⟩, h.fu, h.fv, h.uv, h.hr, h.fs, h.us, h.vs, h.hs, h.rs⟩
theorem M5.setH (h : M5 B fo uo wo lo ro fl ul wl ll lc rl rc q wr) (hg : wr.grownBy w' (Value.slice lo ll lc).ownBlock) (ho : w'.ownsRow B 46 3 (.slice lo ll lc) ll z) : M5 B fo uo wo lo ro fl ul wl ll lc rl rc q w' := by
  obtain ⟨z0, h0, hq⟩ := h.f
  obtain ⟨z1, h1⟩ := h.u
  obtain ⟨z2, h2⟩ := h.v
  obtain ⟨z3, h3⟩ := h.h
  obtain ⟨z4, h4⟩ := h.r
  exact ⟨⟨z0, row_stay h0 fun k hk e => hg.block k hk (row_ne h0 h3 (by decide) e), hq⟩, ⟨z1, row_stay h1 fun k hk e => hg.block k hk (row_ne h1 h3 (by decide) e)⟩, ⟨z2, row_stay h2 fun k hk e => hg.block k hk (row_ne h2 h3 (by decide) e)⟩, ⟨z, ho⟩, ⟨z4, row_stay h4 fun k hk e => hg.block k hk (apart_blk h.hr.symm e)⟩, h.fu, h.fv, h.uv, h.hr, h.fs, h.us, h.vs, h.hs, h.rs⟩
theorem M5.setR (h : M5 B fo uo wo lo ro fl ul wl ll lc rl rc q wr) (hg : wr.grownBy w' (Value.slice ro rl rc).ownBlock) (ho : w'.ownsRow B 46 3 (.slice ro rl rc) rl z) : M5 B fo uo wo lo ro fl ul wl ll lc rl rc q w' := by
  obtain ⟨z0, h0, hq⟩ := h.f
  obtain ⟨z1, h1⟩ := h.u
  obtain ⟨z2, h2⟩ := h.v
  obtain ⟨z3, h3⟩ := h.h
  obtain ⟨z4, h4⟩ := h.r
  exact ⟨⟨z0, row_stay h0 fun k hk e => hg.block k hk (row_ne h0 h4 (by decide) e), hq⟩, ⟨z1, row_stay h1 fun k hk e => hg.block k hk (row_ne h1 h4 (by decide) e)⟩, ⟨z2, row_stay h2 fun k hk e => hg.block k hk (row_ne h2 h4 (by decide) e)⟩, ⟨z3, row_stay h3 fun k hk e => hg.block k hk (apart_blk h.hr e)⟩, ⟨z, ho⟩, h.fu, h.fv, h.uv, h.hr, h.fs, h.us, h.vs, h.hs, h.rs⟩
/-- the row that the loop is at. -/
theorem M5.pick {k : Nat} (h : M5 B fo uo wo lo ro fl ul wl ll lc rl rc (1 ≤ k) wr) (hk : k < 3) : ∃ mo ml, (#[Value.slice fo fl fl, .slice uo ul ul, .slice wo wl wl] : Array Value)[k]? = some (.slice mo ml ml) ∧ ml ≤ 262144 ∧ (∃ z, wr.ownsRow B 3 1 (.slice mo ml ml) ml z) ∧ (∀ j, some j = (Value.slice mo ml ml).ownBlock → Row5 fo uo wo lo ro fl ul wl ll lc rl rc j) ∧
    ∀ w', wr.grownBy w' (Value.slice mo ml ml).ownBlock → w'.ownsRow B 3 1 (.slice mo ml ml) ml (List.replicate ml m7) → M5 B fo uo wo lo ro fl ul wl ll lc rl rc (1 ≤ k + 1) w' := by
  obtain ⟨z0, h0, hq⟩ := h.f
  rcases (show k = 0 ∨ k = 1 ∨ k = 2 by omega) with rfl | rfl | rfl
  · exact ⟨fo, fl, rfl, h.fs, ⟨z0, h0⟩, fun j e => Or.inl e, fun w' hg ho => h.setF hg ho fun _ => rfl⟩
  · refine ⟨uo, ul, rfl, h.us, h.u, fun j e => Or.inr (Or.inl e), fun w' hg ho => ?_⟩
    have h' := h.setU hg ho
    obtain ⟨z, hz, hq'⟩ := h'.f
    exact ⟨⟨z, hz, fun _ => hq' (Nat.le_refl _)⟩, h'.u, h'.v, h'.h, h'.r, h'.fu, h'.fv, h'.uv, h'.hr, h'.fs, h'.us, h'.vs, h'.hs, h'.rs⟩
  · refine ⟨wo, wl, rfl, h.vs, h.v, fun j e => Or.inr (Or.inr (Or.inl e)), fun w' hg ho => ?_⟩
    have h' := h.setV hg ho
    obtain ⟨z, hz, hq'⟩ := h'.f
    exact ⟨⟨z, hz, fun _ => hq' (by omega)⟩, h'.u, h'.v, h'.h, h'.r, h'.fu, h'.fv, h'.uv, h'.hr, h'.fs, h'.us, h'.vs, h'.hs, h'.rs⟩
/-- all rows' blocks are new. -/
theorem M5.new (h : M5 B fo uo wo lo ro fl ul wl ll lc rl rc q wr) {k : Nat} (hk : Row5 fo uo wo lo ro fl ul wl ll lc rl rc k) : B ≤ k := by
  obtain ⟨z0, h0, hq⟩ := h.f
  obtain ⟨z1, h1⟩ := h.u
  obtain ⟨z2, h2⟩ := h.v
  obtain ⟨z3, h3⟩ := h.h
  obtain ⟨z4, h4⟩ := h.r
  rcases hk with e | e | e | e | e
  · exact (row_lt h0 e.symm).1
  · exact (row_lt h1 e.symm).1
  · exact (row_lt h2 e.symm).1
  · exact (row_lt h3 e.symm).1
  · exact (row_lt h4 e.symm).1
/-- a box of another kind is none of them. -/
theorem M5.box (h : M5 B fo uo wo lo ro fl ul wl ll lc rl rc q wr) {b : Nat} {c : Array Value} {T : TypeId} (hb : wr.heap[b]? = some (.cells c T)) (h1 : T ≠ 3) (h2 : T ≠ 46) : ¬ Row5 fo uo wo lo ro fl ul wl ll lc rl rc b := by
  obtain ⟨z0, q0, hq⟩ := h.f
  obtain ⟨z1, q1⟩ := h.u
  obtain ⟨z2, q2⟩ := h.v
  obtain ⟨z3, q3⟩ := h.h
  obtain ⟨z4, q4⟩ := h.r
  rintro (e | e | e | e | e)
  · exact box_ne q0 hb h1 e
  · exact box_ne q1 hb h1 e
  · exact box_ne q2 hb h1 e
  · exact box_ne q3 hb h2 e
  · exact box_ne q4 hb h2 e
theorem Stay.below {w W wx : World} {R : Nat → Prop} (hb : Below w.heap.size w W) (h : Stay R W wx) (hr : ∀ k, R k → w.heap.size ≤ k) : Below w.heap.size w wx :=
  ⟨h.os.trans hb.os, h.tape.trans hb.tape, h.output.trans hb.output, Nat.le_trans hb.size h.size, fun k hk => (h.block k (Nat.lt_of_lt_of_le hk hb.size) fun e => absurd (hr k e) (by omega)).trans (hb.block k hk)⟩
end
theorem apart_of {w w' : World} {B B' n c n' c' s s' : Nat} {T T' : TypeId} {lo ro : Option Addr} {xs xs' : List Value} (h : w.ownsRow B T s (.slice lo n c) n xs) (h' : w'.ownsRow B' T' s' (.slice ro n' c') n' xs') (hle : w.heap.size ≤ B') : FarOff lo ro := by
  intro x y e1 e2
  subst e1
  subst e2
  have h1 := (row_lt h (k := x.block) rfl).2
  have h2 := (row_lt h' (k := y.block) rfl).1
  omega
theorem Stay.later {R : Nat → Prop} {W wx wy : World} (h : Stay R W wx) (hb : Below wx.heap.size wx wy) : Stay R W wy :=
  ⟨hb.os.trans h.os, hb.tape.trans h.tape, hb.output.trans h.output, Nat.le_trans h.size hb.size, fun k hk hn => (hb.block k (Nat.lt_of_lt_of_le hk h.size)).trans (h.block k hk hn)⟩
theorem OwnI.stay {B : Nat} {w w' : World} {ao : Option Addr} {l : List Int} (h : OwnI B w ao l) (hk : ∀ g, ao = some ⟨g, 0, none⟩ → g < w.heap.size → B ≤ g → w.heap[g]? = some (.cells (l.map (Value.int .i64)).toArray 3) → w'.heap[g]? = w.heap[g]?) : OwnI B w' ao l := by
  rcases h with h | ⟨g, e, hB, hg⟩
  · exact Or.inl h
  · exact Or.inr ⟨g, e, hB, (hk g e (lt_of_get hg) hB hg).trans hg⟩
/-- numbers that were answered later are none of the five rows. -/
theorem M5.later {B Bb : Nat} {fo uo wo lo ro : Option Addr} {fl ul wl ll lc rl rc : Nat} {q : Prop} {wr : World} (h : M5 B fo uo wo lo ro fl ul wl ll lc rl rc q wr) (hA : ∀ k, some k = (Value.slice fo fl fl).ownBlock ∨ some k = (Value.slice uo ul ul).ownBlock ∨ some k = (Value.slice wo wl wl).ownBlock → k < Bb) {g : Nat} {c : Array Value} (hg : wr.heap[g]? = some (.cells c 3)) (hb : Bb ≤ g) : ¬ Row5 fo uo wo lo ro fl ul wl ll lc rl rc g := by
  obtain ⟨z3, q3⟩ := h.h
  obtain ⟨z4, q4⟩ := h.r
  rintro (e | e | e | e | e)
  · have := hA g (Or.inl e); omega
  · have := hA g (Or.inr (Or.inl e)); omega
  · have := hA g (Or.inr (Or.inr e)); omega
  · exact box_ne q3 hg (by decide) e
  · exact box_ne q4 hg (by decide) e
theorem all_m7 {n : Nat} {z : List Value} (hl : z.length = n) (h : ∀ j, j < n → z[j]? = some m7) : z = List.replicate n m7 := by
  apply List.ext_getElem?
  intro j
  rcases Nat.lt_or_ge j n with hj | hj
  · rw [h j hj, List.getElem?_replicate, if_pos hj]
  · rw [List.getElem?_eq_none (by omega), List.getElem?_eq_none (by simp; omega)]
theorem grown_trans {w1 w2 w3 : World} {row : Option Nat} (h1 : w1.grownBy w2 row) (h2 : w2.grownBy w3 row) : w1.grownBy w3 row :=
  ⟨h2.os.trans h1.os, h2.tape.trans h1.tape, h2.output.trans h1.output, Nat.le_trans h1.size h2.size, fun k hk hn => (h2.block k (Nat.lt_of_lt_of_le hk h1.size) hn).trans (h1.block k hk hn)⟩
theorem grown_alloc (w : World) (o : Obj) : w.grownBy (w.alloc o) none := ⟨rfl, rfl, rfl, (below_new3 w o).size, fun k hk _ => (below_new3 w o).block k hk⟩
theorem grown_none {w1 w2 : World} (h : w1.grownBy w2 none) (row : Option Nat) : w1.grownBy w2 row := ⟨h.os, h.tape, h.output, h.size, fun k hk _ => h.block k hk (by simp)⟩
theorem grown_below {w1 w2 : World} (h : w1.grownBy w2 none) : Below w1.heap.size w1 w2 := ⟨h.os, h.tape, h.output, h.size, fun k hk => h.block k hk (by simp)⟩
end Go.Proofs.Ytgfmalimnbgdeaa

namespace Go.Proofs.Ytgfmalimnbgdeaa
open Go.RowKit Go.Extern

attribute [local go_sem] Oper.semAt_some

theorem great_calls (N : Int) (ao : Option Addr) (n cap : Nat) (w : World) : Calls Try.prog 13 #[.agg #[.int .i64 N, .slice ao n cap]] w fun e w' => e = .returned (.bool (decide (3000 < n ∧ n ≤ 262144))) ∧ Below w.heap.size w w' := by
  have HB : Hid (∀ u, Below w.heap.size w (w.alloc u)) := fun u => (Below.refl _ w).alloc (Nat.le_refl _) _
  by_cases h1 : (3000 : Int) < n
  · by_cases h2 : (n : Int) ≤ 262144
    · rw [decide_eq_true ⟨by omega, by omega⟩]
      go_enter Try.func13, Try.ntmps13
      go_wp2
      go_ret
      exact ⟨rfl, HB.out _⟩
    · rw [decide_eq_false (by omega)]
      go_enter Try.func13, Try.ntmps13
      go_wp2
      go_ret
      exact ⟨rfl, HB.out _⟩
  · rw [decide_eq_false (by omega)]
    go_enter Try.func13, Try.ntmps13
    go_wp2
    go_ret
    exact ⟨rfl, HB.out _⟩
theorem islice_one (b p : Nat) (w : World) : (Instr.slice 26 (.slice (some ⟨b, 0, none⟩) (p + 1) (p + 1)) none (some (.int .i64 1)) none).run Try.prog w = .ok (.slice (some ⟨b, 0, none⟩) 1 (p + 1)) w := by
  rw [run_slice_h (ht := Try.elemI) (h0 := by omega) (h2 := by omega), Try.sizeI]
  simp [sliced, Addr.add]
theorem info_int : ∃ i, Try.prog.info? 3 = some i ∧ i.zero = some (.int .i64 0) ∧ i.size = 1 ∧ i.bytes = 8 := by
  have h : (Try.prog.info? 3).map (fun i => (i.zero, i.size, i.bytes)) = some (some (.int .i64 0), 1, 8) := by kernel_rfl
  cases hi : Try.prog.info? 3 with
  | none => rw [hi] at h; cases h
  | some i => rw [hi] at h; simp at h; exact ⟨i, rfl, h.1, h.2.1, h.2.2⟩

set_option maxRecDepth 100000 in
set_option maxHeartbeats 4000000 in
theorem memory_calls (N : Int) (ao : Option Addr) (cap : Nat) (xs : List (Int × Int × Int)) (w : World) (hl : HasArcs w (.slice ao xs.length cap) xs) (hno : ao = none → cap = 0) (hm : xs.length * 24 ≤ 140737488351232) : Calls Try.prog 4 #[.agg #[.int .i64 N, .slice ao xs.length cap]] w fun e w' => e = .returned (.bool true) ∧ Below w.heap.size w w' := by
  have hmL : xs.length ≤ maxLen := by unfold maxLen; omega
  obtain ⟨F, T, V, ⟨hF, hT, hV⟩, hBU, hDB⟩ := build_both N xs hmL
  obtain ⟨M, l, hl0, hGR, hDG⟩ := graph_both (F := F) (T := T) (W := V) (by unfold maxLen; omega)
  obtain ⟨r, hr0, hRO⟩ := row_any (F := F) (T := T) (W := V) 0 (by unfold maxLen; omega)
  have HBU : Hid (type_of% hBU) := hBU
  have HDB : Hid (type_of% hDB) := hDB
  have HGR : Hid (type_of% hGR) := hGR
  have HDG : Hid (type_of% hDG) := hDG
  have HRO : Hid (type_of% hRO) := hRO
  have HL : Hid (HasArcs w (.slice ao xs.length cap) xs) := hl
  have HNO : Hid (ao = none → cap = 0) := hno
  obtain ⟨i0, hi, hz0, hz1, hz2⟩ := info_int
  clear hBU hDB hGR hDG hRO hl hno hmL
  go_enter Try.func4, Try.ntmps4
  go_wp2_with fail
  have HN0 : Hid ((w.alloc (.cells #[.int .i64 N, .slice ao xs.length cap] 24)).heap[w.heap.size]? = some (.cells #[.int .i64 N, .slice ao xs.length cap] 24)) := heap_new _ _
  have HB0 : Hid (Below w.heap.size w (w.alloc (.cells #[.int .i64 N, .slice ao xs.length cap] 24))) := below_new3 w _
  generalize w.alloc (.cells #[.int .i64 N, .slice ao xs.length cap] 24) = W0 at *
  have HK : Hid (∀ wx, Below W0.heap.size W0 wx → wx.heap[w.heap.size]? = some (.cells #[.int .i64 N, .slice ao xs.length cap] 24) ∧ wx.cell? ⟨w.heap.size, 0, none⟩ = some (.int .i64 N) ∧ wx.cell? ⟨w.heap.size, 1, none⟩ = some (.slice ao xs.length cap) ∧ w.heap.size < wx.heap.size ∧ HasArcs wx (.slice ao xs.length cap) xs ∧ Below w.heap.size w wx) := fun wx h => by
    have g := (h.block _ (lt_of_get HN0.out)).trans HN0.out
    have hb := HB0.out.trans (h.mono HB0.out.size)
    exact ⟨g, (cell_two g).1, (cell_two g).2.1, lt_of_get g, HL.out.keep hb, hb⟩
  clear HN0 HB0
  refine (awake_calls W0).mono ?_
  rintro e w1 ⟨rfl, h⟩
  have R1 : Hid (Below W0.heap.size W0 w1) := h
  obtain ⟨_, g0, g1, gs, _, _⟩ := HK.out w1 h
  clear h
  go_wp2_with fail
  refine (great_calls N ao xs.length cap w1).mono ?_
  rintro e w2 ⟨rfl, h⟩
  have R2 : Hid (Below W0.heap.size W0 w2) := R1.out.trans (h.mono R1.out.size)
  clear h g0 g1 gs
  obtain ⟨_, g0, g1, gs, _, _⟩ := HK.out w2 R2.out
  generalize decide (3000 < xs.length ∧ xs.length ≤ 262144) = big
  cases big with
  | true =>
    have HBE : Hid (Below w.heap.size w w2) := (HK.out w2 R2.out).2.2.2.2.2
    go_wp2
    go_ret
    exact ⟨rfl, HBE.out⟩
  | false =>
    go_wp2_with fail
    refine (spare_calls N ao cap xs w2 (HK.out w2 R2.out).2.2.2.2.1 HNO.out hm).mono ?_
    rintro e w3 ⟨so, sc, rfl, ho, h⟩
    obtain ⟨g, rfl, hsc⟩ : ∃ g, so = some ⟨g, 0, none⟩ ∧ xs.length + 2 ≤ sc := by
      rcases ho.2 with ⟨e, h0⟩ | ⟨g, c, cur, e, _, _, hle, _⟩
      · omega
      · injection e with e1 _ e3
        subst e3
        exact ⟨g, e1, hle⟩
    have R3 : Hid (Below W0.heap.size W0 w3) := R2.out.trans (h.mono R2.out.size)
    have A3 : Hid (HasArcs w3 (.slice (some ⟨g, 0, none⟩) (xs.length + 2) sc) (xs ++ marks)) := by
      have e2 : (xs ++ marks).length = xs.length + 2 := by rw [List.length_append]; rfl
      rw [← e2] at ho ⊢
      exact arcs_of_rowC ho
    clear h ho g0 g1 gs
    go_wp2_with fail
    have hB := below_new3 w3 (.cells #[.int .i64 N, .slice (some ⟨g, 0, none⟩) xs.length sc] 24)
    have hN := heap_new w3 (.cells #[.int .i64 N, .slice (some ⟨g, 0, none⟩) xs.length sc] 24)
    generalize w3.alloc (.cells #[.int .i64 N, .slice (some ⟨g, 0, none⟩) xs.length sc] 24) = W3 at *
    have HX : Hid (∀ wx, Below W3.heap.size W3 wx → wx.cell? ⟨w3.heap.size, 0, none⟩ = some (.int .i64 N) ∧ wx.cell? ⟨w3.heap.size, 1, none⟩ = some (.slice (some ⟨g, 0, none⟩) xs.length sc) ∧ w3.heap.size < wx.heap.size ∧ HasArcs wx (.slice (some ⟨g, 0, none⟩) (xs.length + 2) sc) (xs ++ marks) ∧ HasArcs wx (.slice (some ⟨g, 0, none⟩) xs.length sc) xs ∧ Below W0.heap.size W0 wx) := fun wx h => by
      have gg := (h.block _ (lt_of_get hN)).trans hN
      have hA := A3.out.keep (btr hB h)
      exact ⟨(cell_two gg).1, (cell_two gg).2.1, lt_of_get gg, hA, arcs_front hA, btr R3.out (btr hB h)⟩
    generalize w3.heap.size = xb at *
    clear hB hN A3
    refine (HBU.out W3 _ sc (HX.out W3 (Below.refl _ _)).2.2.2.2.1).mono ?_
    rintro e w4 ⟨fo, uo, wo, v4, rfl, ⟨of, ou, ow⟩, ⟨pa, pb, pc⟩, h⟩
    obtain ⟨x0, x1, xl, _, _, _⟩ := HX.out w4 h
    have S4 : Hid ((OwnI W3.heap.size w4 fo F ∧ OwnI W3.heap.size w4 uo T ∧ OwnI W3.heap.size w4 wo V) ∧ (FarOff fo uo ∧ FarOff fo wo ∧ FarOff uo wo) ∧ Below W3.heap.size W3 w4) := ⟨⟨of, ou, ow⟩, ⟨pa, pb, pc⟩, h⟩
    clear of ou ow pa pb pc h
    go_wp2_with fail
    have hB := below_new3 w4 (.cells #[.slice fo F.length F.length, .slice uo T.length T.length, .slice wo V.length V.length] 28)
    have hN := heap_new w4 (.cells #[.slice fo F.length F.length, .slice uo T.length T.length, .slice wo V.length V.length] 28)
    generalize w4.alloc (.cells #[.slice fo F.length F.length, .slice uo T.length T.length, .slice wo V.length V.length] 28) = W4 at *
    have HA : Hid (W4.heap[w4.heap.size]? = some (.cells #[.slice fo F.length F.length, .slice uo T.length T.length, .slice wo V.length V.length] 28) ∧ (OwnI W3.heap.size W4 fo F ∧ OwnI W3.heap.size W4 uo T ∧ OwnI W3.heap.size W4 wo V) ∧ Below W3.heap.size W3 W4) := ⟨hN, ⟨S4.out.1.1.keep hB, S4.out.1.2.1.keep hB, S4.out.1.2.2.keep hB⟩, btr S4.out.2.2 hB⟩
    have HAP : Hid (FarOff fo uo ∧ FarOff fo wo ∧ FarOff uo wo) := S4.out.2.1
    generalize w4.heap.size = ab at *
    clear hB hN S4 x0 x1 xl
    refine (HBU.out W4 _ sc (HX.out W4 HA.out.2.2).2.2.2.2.1).mono ?_
    rintro e w5 ⟨go, ho, ko, v5, rfl, ⟨og, oh, ok⟩, _, h⟩
    have S5 : Hid ((OwnI W4.heap.size w5 go F ∧ OwnI W4.heap.size w5 ho T ∧ OwnI W4.heap.size w5 ko V) ∧ Below W4.heap.size W4 w5) := ⟨⟨og, oh, ok⟩, h⟩
    clear og oh ok h
    go_wp2_with fail
    have hB := below_new3 w5 (.cells #[.slice go F.length F.length, .slice ho T.length T.length, .slice ko V.length V.length] 28)
    have hN := heap_new w5 (.cells #[.slice go F.length F.length, .slice ho T.length T.length, .slice ko V.length V.length] 28)
    generalize w5.alloc (.cells #[.slice go F.length F.length, .slice ho T.length T.length, .slice ko V.length V.length] 28) = W5 at *
    have HBB : Hid (W5.heap[w5.heap.size]? = some (.cells #[.slice go F.length F.length, .slice ho T.length T.length, .slice ko V.length V.length] 28) ∧ (OwnI W4.heap.size W5 go F ∧ OwnI W4.heap.size W5 ho T ∧ OwnI W4.heap.size W5 ko V) ∧ Below W4.heap.size W4 W5) := ⟨hN, ⟨S5.out.1.1.keep hB, S5.out.1.2.1.keep hB, S5.out.1.2.2.keep hB⟩, btr S5.out.2 hB⟩
    have HCB : Hid (∀ wx, Below W5.heap.size W5 wx → wx.cell? ⟨w5.heap.size, 0, none⟩ = some (.slice go F.length F.length) ∧ wx.cell? ⟨w5.heap.size, 1, none⟩ = some (.slice ho T.length T.length) ∧ wx.cell? ⟨w5.heap.size, 2, none⟩ = some (.slice ko V.length V.length) ∧ w5.heap.size < wx.heap.size ∧ Arr wx F T V go ho ko F.length T.length V.length) := fun wx hx => by
      have gg := (hx.block _ (lt_of_get hN)).trans hN
      obtain ⟨c0, c1, c2⟩ := box3 gg
      exact ⟨c0, c1, c2, lt_of_get gg, (HBB.out.2.1.1.keep hx).ints _, (HBB.out.2.1.2.1.keep hx).ints _, (HBB.out.2.1.2.2.keep hx).ints _⟩
    generalize w5.heap.size = bb at *
    clear hB hN S5
    refine (HGR.out W5 _ _ _ _ _ _ (HCB.out W5 (Below.refl _ _)).2.2.2.2).mono ?_
    rintro e w6 ⟨lo, lc, v6, rfl, ho6, h⟩
    have S6 : Hid (w6.ownsRow W5.heap.size 46 3 (.slice lo l.length lc) l.length (flatC l) ∧ Below W5.heap.size W5 w6) := ⟨ho6, h⟩
    obtain ⟨b0, b1, b2, bl, _⟩ := HCB.out w6 h
    clear ho6 h
    go_wp2_with fail
    have hB := below_new3 w6 (.cells #[.int .i64 M, .slice lo l.length lc] 24)
    have hN := heap_new w6 (.cells #[.int .i64 M, .slice lo l.length lc] 24)
    generalize w6.alloc (.cells #[.int .i64 M, .slice lo l.length lc] 24) = W6 at *
    have HH : Hid (W6.heap[w6.heap.size]? = some (.cells #[.int .i64 M, .slice lo l.length lc] 24) ∧ W6.ownsRow W5.heap.size 46 3 (.slice lo l.length lc) l.length (flatC l) ∧ Below W5.heap.size W5 W6) := ⟨hN, rowC_keep S6.out.1 hB, btr S6.out.2 hB⟩
    generalize w6.heap.size = hb at *
    clear hB hN S6 b0 b1 b2 bl
    refine (HRO.out W6 _ _ _ _ _ _ (HCB.out W6 HH.out.2.2).2.2.2.2).mono ?_
    rintro e w7 ⟨ro, rc, v7, rfl, ho7, h⟩
    have HR7 : Hid (w7.ownsRow W6.heap.size 46 3 (.slice ro r.length rc) r.length (flatC r) ∧ Below W6.heap.size W6 w7) := ⟨ho7, h⟩
    have R7 : Hid (Below W0.heap.size W0 w7 ∧ Below W3.heap.size W3 w7) := by
      have d3 := btr HA.out.2.2 (btr HBB.out.2.2 (btr HH.out.2.2 h))
      exact ⟨(HX.out w7 d3).2.2.2.2.2, d3⟩
    clear ho7 h
    obtain ⟨_, g0, g1, gs, _, _⟩ := HK.out w7 R7.out.1
    go_wp2_with fail
    refine (kept_calls N ao cap g sc xs w7 (HK.out w7 R7.out.1).2.2.2.2.1 (HX.out w7 R7.out.2).2.2.2.1 hsc hm).mono ?_
    rintro e w8 ⟨rfl, h⟩
    have R8 : Hid (Below w7.heap.size w7 w8) := h
    obtain ⟨c0, c1, c2, cl⟩ : w8.cell? ⟨ab, 0, none⟩ = some (.slice fo F.length F.length) ∧ w8.cell? ⟨ab, 1, none⟩ = some (.slice uo T.length T.length) ∧ w8.cell? ⟨ab, 2, none⟩ = some (.slice wo V.length V.length) ∧ ab < w8.heap.size := by
      have d := btr HBB.out.2.2 (btr HH.out.2.2 (btr HR7.out.2 h))
      have gg := (d.block _ (lt_of_get HA.out.1)).trans HA.out.1
      obtain ⟨c0, c1, c2⟩ := box3 gg
      exact ⟨c0, c1, c2, lt_of_get gg⟩
    clear h g0 g1 gs
    go_wp2_with fail
    have hB := below_new3 w8 (.cells #[.slice fo F.length F.length, .slice uo T.length T.length, .slice wo V.length V.length] 26)
    have hN := heap_new w8 (.cells #[.slice fo F.length F.length, .slice uo T.length T.length, .slice wo V.length V.length] 26)
    generalize w8.alloc (.cells #[.slice fo F.length F.length, .slice uo T.length T.length, .slice wo V.length V.length] 26) = W8 at *
    have D7 : Below w7.heap.size w7 W8 := btr R8.out hB
    have D6 : Below W6.heap.size W6 W8 := btr HR7.out.2 D7
    have D5 : Below W5.heap.size W5 W8 := btr HH.out.2.2 D6
    have D4 : Below W4.heap.size W4 W8 := btr HBB.out.2.2 D5
    have D3 : Below W3.heap.size W3 W8 := btr HA.out.2.2 D4
    have D0 : Below W0.heap.size W0 W8 := (HX.out W8 D3).2.2.2.2.2
    have L3 : w.heap.size ≤ W3.heap.size := (HK.out W3 (HX.out W3 (Below.refl _ _)).2.2.2.2.2).2.2.2.2.2.size
    have L4 : W3.heap.size ≤ W4.heap.size := HA.out.2.2.size
    have L5 : W4.heap.size ≤ W5.heap.size := HBB.out.2.2.size
    have L6 : W5.heap.size ≤ W6.heap.size := HH.out.2.2.size
    have qf := (HA.out.2.1.1.keep D4).row (show F.length ≤ maxLen by unfold maxLen; omega)
    have qu := (HA.out.2.1.2.1.keep D4).row (show T.length ≤ maxLen by unfold maxLen; omega)
    have qv := (HA.out.2.1.2.2.keep D4).row (show V.length ≤ maxLen by unfold maxLen; omega)
    have M8 : Hid (M5 w.heap.size fo uo wo lo ro F.length T.length V.length l.length lc r.length rc (1 ≤ 0) W8) := by
      refine ⟨⟨_, row_base qf L3, fun h => by omega⟩, ⟨_, row_base qu L3⟩, ⟨_, row_base qv L3⟩, ⟨_, row_base (rowC_keep HH.out.2.1 D6) (by omega)⟩, ⟨_, row_base (rowC_keep HR7.out.1 D7) (by omega)⟩, HAP.out.1, HAP.out.2.1, HAP.out.2.2, apart_of HH.out.2.1 HR7.out.1 (Nat.le_refl _), by omega, hT, hV, hl0, hr0⟩
    have HBL : Hid (∀ k, some k = (Value.slice fo F.length F.length).ownBlock ∨ some k = (Value.slice uo T.length T.length).ownBlock ∨ some k = (Value.slice wo V.length V.length).ownBlock → k < W4.heap.size) := by
      rintro k (e | e | e)
      · exact (row_lt (HA.out.2.1.1.row (show F.length ≤ maxLen by unfold maxLen; omega)) e.symm).2
      · exact (row_lt (HA.out.2.1.2.1.row (show T.length ≤ maxLen by unfold maxLen; omega)) e.symm).2
      · exact (row_lt (HA.out.2.1.2.2.row (show V.length ≤ maxLen by unfold maxLen; omega)) e.symm).2
    have HK8 : Hid (∀ wx, Stay (Row5 fo uo wo lo ro F.length T.length V.length l.length lc r.length rc) W8 wx → (wx.heap[w.heap.size]? = some (.cells #[.int .i64 N, .slice ao xs.length cap] 24) ∧ wx.heap[ab]? = some (.cells #[.slice fo F.length F.length, .slice uo T.length T.length, .slice wo V.length V.length] 28) ∧ wx.heap[bb]? = some (.cells #[.slice go F.length F.length, .slice ho T.length T.length, .slice ko V.length V.length] 28) ∧ wx.heap[hb]? = some (.cells #[.int .i64 M, .slice lo l.length lc] 24) ∧ wx.heap[w8.heap.size]? = some (.cells #[.slice fo F.length F.length, .slice uo T.length T.length, .slice wo V.length V.length] 26)) ∧ Arr wx F T V go ho ko F.length T.length V.length ∧ HasArcs wx (.slice ao xs.length cap) xs ∧ Below w.heap.size w wx) := fun wx hx => by
      have bx : ∀ {b : Nat} {c : Array Value} {Ty : TypeId}, W8.heap[b]? = some (.cells c Ty) → Ty ≠ 3 → Ty ≠ 46 → wx.heap[b]? = some (.cells c Ty) := fun hb h1 h2 => (hx.block _ (lt_of_get hb) (M8.out.box hb h1 h2)).trans hb
      have hbl : Below w.heap.size w wx := Stay.below (HK.out W8 D0).2.2.2.2.2 hx (fun k hk => M8.out.new hk)
      have st : ∀ {ao : Option Addr} {y : List Int}, OwnI W4.heap.size W8 ao y → HasInts wx (.slice ao y.length y.length) y := fun h => (h.stay fun g _ hl hB hg => hx.block g hl (M8.out.later HBL.out hg hB)).ints _
      exact ⟨⟨bx (HK.out W8 D0).1 (by decide) (by decide), bx ((D4.block _ (lt_of_get HA.out.1)).trans HA.out.1) (by decide) (by decide), bx ((D5.block _ (lt_of_get HBB.out.1)).trans HBB.out.1) (by decide) (by decide), bx ((D6.block _ (lt_of_get HH.out.1)).trans HH.out.1) (by decide) (by decide), bx hN (by decide) (by decide)⟩, ⟨st (HBB.out.2.1.1.keep D5), st (HBB.out.2.1.2.1.keep D5), st (HBB.out.2.1.2.2.keep D5)⟩, HL.out.keep hbl, hbl⟩
    generalize w8.heap.size = sb at *
    clear hB hN D7 D6 D5 D4 D3 D0 L3 L4 L5 L6 qf qu qv c0 c1 c2 cl HBL HBB HCB HA HH HR7 R7 R8 HX HK HAP R1 R2 R3
    go_loopw [66] (fun iv wr => ∃ k : Nat, k ≤ 3 ∧ iv = .int .i64 k ∧ M5 w.heap.size fo uo wo lo ro F.length T.length V.length l.length lc r.length rc (1 ≤ k) wr ∧ Stay (Row5 fo uo wo lo ro F.length T.length V.length l.length lc r.length rc) W8 wr) (fun iv _ => 3 - (intOf iv).toNat)
    case atStart => exact ⟨0, by omega, rfl, M8.out, Stay.refl _ _⟩
    case round =>
      obtain ⟨k, hk, rfl, hM, hS⟩ := hrel
      by_cases hlt : k < 3
      · obtain ⟨mo, ml, hc, hml, ⟨z, hz⟩, hR, hNx⟩ := hM.pick hlt
        have cs := (HK8.out wr hS).1.2.2.2.2
        have ck : wr.cell? ⟨sb, k, none⟩ = some (.slice mo ml ml) := by rw [← hc]; simp [World.cell?, cs]
        have cl := lt_of_get cs
        have HZ : Hid (wr.ownsRow w.heap.size 3 1 (.slice mo ml ml) ml z) := hz
        have HN : Hid (∀ w', wr.grownBy w' (Value.slice mo ml ml).ownBlock → w'.ownsRow w.heap.size 3 1 (.slice mo ml ml) ml (List.replicate ml m7) → M5 w.heap.size fo uo wo lo ro F.length T.length V.length l.length lc r.length rc (1 ≤ k + 1) w' ∧ Stay (Row5 fo uo wo lo ro F.length T.length V.length l.length lc r.length rc) W8 w') := fun w' h1 h2 => ⟨hNx w' h1 h2, hS.grown h1 hR⟩
        have b0 : (0 : Int) ≤ (k : Int) := by omega
        have b1 : (k : Int) < 3 := by omega
        clear hM hS hc hz hR hNx cs
        generalize hW9 : wr = W9 at *
        clear hW9
        go_wp2_with fail
        go_loopw [72] (fun iv wx => ∃ (i : Nat) (z : List Value), i ≤ ml ∧ iv = .int .i64 i ∧ wx.ownsRow w.heap.size 3 1 (.slice mo ml ml) ml z ∧ (∀ j, j < i → z[j]? = some m7) ∧ W9.grownBy wx (Value.slice mo ml ml).ownBlock) (fun iv _ => ml - (intOf iv).toNat)
        case atStart => exact ⟨0, z, Nat.zero_le _, rfl, HZ.out, (fun j hj => by omega), ⟨rfl, rfl, rfl, Nat.le_refl _, fun _ _ _ => rfl⟩⟩
        case round =>
          obtain ⟨i, z1, hi1, rfl, ho1, h71, hg1⟩ := hrel
          by_cases hil : i < ml
          · obtain ⟨gm, cm, e, hbm, hlm⟩ := ho1.form (by omega)
            injection e with e1 _ e3
            subst e1
            have hzl : z1.length = ml := by have := ho1.1; omega
            obtain ⟨y, hy⟩ : ∃ y, z1[i]? = some y := ⟨z1[i], List.getElem?_eq_getElem (by omega)⟩
            have c0 : wr.cell? ⟨gm, i, none⟩ = some y := (ho1.cellAt i (by omega)).trans hy
            have c1 : wr.frozen? ⟨gm, i, none⟩ = false := ho1.frozenAt i
            have HS : Hid (type_of% (ho1.stored i m7)) := ho1.stored i m7
            have HG1 : Hid (W9.grownBy wr (Value.slice (some ⟨gm, 0, none⟩) ml ml).ownBlock) := hg1
            have H71 : Hid (∀ j, j < i + 1 → (z1.set i m7)[j]? = some m7) := fun j hj => by
              rw [List.getElem?_set]
              by_cases e : i = j
              · rw [if_pos e, if_pos (by omega)]
              · rw [if_neg e]; exact h71 j (by omega)
            have d0 : (0 : Int) ≤ (i : Int) := by omega
            have d1 : (i : Int) < (ml : Int) := by omega
            clear ho1 h71 hg1 hy e3 hzl hlm hbm
            go_wp2
            go_roundw
            case rel => exact ⟨i + 1, z1.set i m7, by omega, by go_num, HS.out.1, H71.out, grown_trans HG1.out HS.out.2⟩
            case measure => simp [intOf]; omega
          · obtain rfl : i = ml := by omega
            have hz7 := all_m7 (by have := ho1.1; omega) h71
            subst hz7
            have HO1 : Hid (wr.ownsRow w.heap.size 3 1 (.slice mo i i) i (List.replicate i m7)) := ho1
            have HG1 : Hid (W9.grownBy wr (Value.slice mo i i).ownBlock) := hg1
            have hno : mo = none → i = 0 ∧ i = 0 := fun e => by
              rcases ho1.2 with ⟨e2, h0⟩ | ⟨g, c, cur, e2, _⟩
              · exact ⟨h0, h0⟩
              · rw [e] at e2; cases e2
            have HNO : Hid (mo = none → i = 0 ∧ i = 0) := hno
            have HOL : Hid (∀ b, mo = some b → ∀ j u, (List.replicate i m7)[j]? = some u → ((wr.alloc (.cells #[.int .i64 1, .int .i64 2] 3)).cell? (b.add j)) = some u) := fun b e j u hj => by
              have hj' : j < i := by have := (List.getElem?_eq_some_iff.1 hj).1; simpa using this
              have h' := HO1.out
              obtain ⟨gm, cm, e4, hbm, hlm⟩ := h'.form (by omega)
              injection e4 with e5
              rw [e] at e5
              cases e5
              rw [Addr.add_lit, Nat.zero_add]
              subst e
              have h2 := (below_new3 wr (.cells #[.int .i64 1, .int .i64 2] 3)).cell (p := ⟨gm, j, none⟩) hlm
              rw [h2, h'.cellAt j (by omega)]
              exact hj
            clear ho1 h71 hg1 hno
            go_wp2_with (at_builtin; refine wpList_append_grows _ rfl _ _ 26 rfl 3 i0 (.int .i64 0) 1 8 Try.underlying26 hi hz0 hz1 hz2 rfl (by decide) mo i i (List.replicate i m7) rfl HNO.out (by simp) HOL.out ⟨wr.heap.size, 0, none⟩ 2 2 [.int .i64 1, .int .i64 2] rfl rfl ?hnews ?hone (by omega) (by unfold maxLen; omega) (by omega) ?_; (case hnews => intro j x hx; rcases j with _ | _ | j <;> simp at hx <;> subst hx <;> simp [Addr.add]); (case hone => intro x hx; simp at hx; rcases hx with rfl | rfl <;> rfl); intro v' w10 hown10 hgrow10; have H10 : Hid (wr.grownBy w10 none) := grown_trans (grown_alloc wr _) hgrow10; obtain ⟨vg, vc, hv', _, _⟩ := hown10.form (by omega); subst hv'; clear hown10 hgrow10)
            have h := HN.out w10 (grown_trans HG1.out (grown_none H10.out _)) (row_stay HO1.out fun k hk _ => H10.out.block k hk (by simp))
            exact ⟨⟨k + 1, by omega, by go_num, h.1, h.2⟩, by simp [intOf]; omega⟩
      · obtain rfl : k = 3 := by omega
        have HM9 : Hid (M5 w.heap.size fo uo wo lo ro F.length T.length V.length l.length lc r.length rc (1 ≤ 3) wr ∧ Stay (Row5 fo uo wo lo ro F.length T.length V.length l.length lc r.length rc) W8 wr) := ⟨hM, hS⟩
        obtain ⟨d0, d1, dl⟩ : wr.cell? ⟨hb, 0, none⟩ = some (.int .i64 M) ∧ wr.cell? ⟨hb, 1, none⟩ = some (.slice lo l.length lc) ∧ hb < wr.heap.size := by
          have gg := (HK8.out wr hS).1.2.2.2.1
          exact ⟨(cell_two gg).1, (cell_two gg).2.1, lt_of_get gg⟩
        clear hM hS
        generalize hW9 : wr = W9 at *
        clear hW9
        go_wp2_with fail
        clear d0 d1 dl
        go_loopw [92] (fun iv wx => ∃ i : Nat, i ≤ l.length ∧ iv = .int .i64 i ∧ M5 w.heap.size fo uo wo lo ro F.length T.length V.length l.length lc r.length rc (1 ≤ 3) wx ∧ Stay (Row5 fo uo wo lo ro F.length T.length V.length l.length lc r.length rc) W8 wx) (fun iv _ => l.length - (intOf iv).toNat)
        case atStart => exact ⟨0, Nat.zero_le _, rfl, HM9.out⟩
        case round =>
          obtain ⟨i, hi1, rfl, hM, hS⟩ := hrel
          by_cases hil : i < l.length
          · obtain ⟨z1, ho1⟩ := hM.h
            obtain ⟨d0, d1, dl⟩ : wr.cell? ⟨hb, 0, none⟩ = some (.int .i64 M) ∧ wr.cell? ⟨hb, 1, none⟩ = some (.slice lo l.length lc) ∧ hb < wr.heap.size := by
              have gg := (HK8.out wr hS).1.2.2.2.1
              exact ⟨(cell_two gg).1, (cell_two gg).2.1, lt_of_get gg⟩
            obtain ⟨gm, hgm, hgl⟩ : ∃ gm, lo = some ⟨gm, 0, none⟩ ∧ gm < wr.heap.size := by
              obtain ⟨gm, cm, e, hbm, hlm⟩ := ho1.form (by omega)
              injection e with e1
              exact ⟨gm, e1, hlm⟩
            have HMS : Hid (M5 w.heap.size fo uo wo lo ro F.length T.length V.length l.length lc r.length rc (1 ≤ 3) wr ∧ Stay (Row5 fo uo wo lo ro F.length T.length V.length l.length lc r.length rc) W8 wr) := ⟨hM, hS⟩
            rw [hgm] at ho1 d1
            have HGM : Hid (lo = some ⟨gm, 0, none⟩) := hgm
            have hzl : z1.length = l.length * 3 := ho1.1
            obtain ⟨y, hy⟩ : ∃ y, z1[i * 3 + 2]? = some y := ⟨z1[i * 3 + 2], List.getElem?_eq_getElem (by omega)⟩
            have c0 : wr.cell? ⟨gm, i * 3 + 2, none⟩ = some y := (ho1.cellAt (i * 3 + 2) (by omega)).trans hy
            have c1 : wr.frozen? ⟨gm, i * 3 + 2, none⟩ = false := ho1.frozenAt (i * 3 + 2)
            have HS : Hid (type_of% (ho1.stored (i * 3 + 2) m7)) := ho1.stored (i * 3 + 2) m7
            have e0 : (0 : Int) ≤ (i : Int) := by omega
            have e1 : (i : Int) < (l.length : Int) := by omega
            clear ho1 hy hM hS hzl hgm
            go_wp2
            go_roundw
            case rel =>
              have hs := HS.out
              have hgm := HGM.out
              have hg : wr.grownBy (wr.setCell ⟨gm, i * 3 + 2, none⟩ m7) (Value.slice lo l.length lc).ownBlock := by rw [hgm]; exact hs.2
              rw [← hgm] at hs
              exact ⟨i + 1, by omega, by go_num, HMS.out.1.setH hg hs.1, HMS.out.2.grown hg fun k e => Or.inr (Or.inr (Or.inr (Or.inl e)))⟩
            case measure => simp [intOf]; omega
          · obtain rfl : i = l.length := by omega
            have HM10 : Hid (M5 w.heap.size fo uo wo lo ro F.length T.length V.length l.length lc r.length rc (1 ≤ 3) wr ∧ Stay (Row5 fo uo wo lo ro F.length T.length V.length l.length lc r.length rc) W8 wr) := ⟨hM, hS⟩
            clear hM hS
            generalize hW10 : wr = W10 at *
            clear hW10
            go_wp2_with fail
            go_loopw [103] (fun iv wx => ∃ i : Nat, i ≤ r.length ∧ iv = .int .i64 i ∧ M5 w.heap.size fo uo wo lo ro F.length T.length V.length l.length lc r.length rc (1 ≤ 3) wx ∧ Stay (Row5 fo uo wo lo ro F.length T.length V.length l.length lc r.length rc) W8 wx) (fun iv _ => r.length - (intOf iv).toNat)
            case atStart => exact ⟨0, Nat.zero_le _, rfl, HM10.out⟩
            case round =>
              obtain ⟨i, hi1, rfl, hM, hS⟩ := hrel
              by_cases hil : i < r.length
              · obtain ⟨z1, ho1⟩ := hM.r
                obtain ⟨gm, hgm, hgl⟩ : ∃ gm, ro = some ⟨gm, 0, none⟩ ∧ gm < wr.heap.size := by
                  obtain ⟨gm, cm, e, hbm, hlm⟩ := ho1.form (by omega)
                  injection e with e1
                  exact ⟨gm, e1, hlm⟩
                subst hgm
                have HMS : Hid (M5 w.heap.size fo uo wo lo (some ⟨gm, 0, none⟩) F.length T.length V.length l.length lc r.length rc (1 ≤ 3) wr ∧ Stay (Row5 fo uo wo lo (some ⟨gm, 0, none⟩) F.length T.length V.length l.length lc r.length rc) W8 wr) := ⟨hM, hS⟩
                have hzl : z1.length = r.length * 3 := ho1.1
                obtain ⟨y, hy⟩ : ∃ y, z1[i * 3 + 2]? = some y := ⟨z1[i * 3 + 2], List.getElem?_eq_getElem (by omega)⟩
                have c0 : wr.cell? ⟨gm, i * 3 + 2, none⟩ = some y := (ho1.cellAt (i * 3 + 2) (by omega)).trans hy
                have c1 : wr.frozen? ⟨gm, i * 3 + 2, none⟩ = false := ho1.frozenAt (i * 3 + 2)
                have HS : Hid (type_of% (ho1.stored (i * 3 + 2) m7)) := ho1.stored (i * 3 + 2) m7
                have e0 : (0 : Int) ≤ (i : Int) := by omega
                have e1 : (i : Int) < (r.length : Int) := by omega
                clear ho1 hy hM hS hzl
                go_wp2
                go_roundw
                case rel => exact ⟨i + 1, by omega, by go_num, HMS.out.1.setR HS.out.2 HS.out.1, HMS.out.2.grown HS.out.2 fun k e => Or.inr (Or.inr (Or.inr (Or.inr e)))⟩
                case measure => simp [intOf]; omega
              · obtain rfl : i = r.length := by omega
                have HM11 : Hid (M5 w.heap.size fo uo wo lo ro F.length T.length V.length l.length lc r.length rc (1 ≤ 3) wr ∧ Stay (Row5 fo uo wo lo ro F.length T.length V.length l.length lc r.length rc) W8 wr) := ⟨hM, hS⟩
                obtain ⟨d0, d1, dl⟩ : wr.cell? ⟨w.heap.size, 0, none⟩ = some (.int .i64 N) ∧ wr.cell? ⟨w.heap.size, 1, none⟩ = some (.slice ao xs.length cap) ∧ w.heap.size < wr.heap.size := by
                  have gg := (HK8.out wr hS).1.1
                  exact ⟨(cell_two gg).1, (cell_two gg).2.1, lt_of_get gg⟩
                have HAX : Hid (HasArcs wr (.slice ao xs.length cap) xs) := (HK8.out wr hS).2.2.1
                clear hM hS
                generalize hW11 : wr = W11 at *
                clear hW11
                go_wp2_with fail
                have HF11 : Hid (W11.ownsRow w.heap.size 3 1 (.slice fo F.length F.length) F.length (List.replicate F.length m7)) := by
                  obtain ⟨z, hz, hq⟩ := HM11.out.1.f
                  have e := hq (by omega)
                  subst e
                  exact hz
                refine (HDB.out W11 ao cap HAX.out).mono ?_
                rintro e w12 ⟨fo', fc, uo', uc, wo', wc, C, po, pl, pc, rfl, hArr, h⟩
                have S12 : Hid (Arr w12 F T V fo' uo' wo' fc uc wc ∧ Below W11.heap.size W11 w12) := ⟨hArr, h⟩
                obtain ⟨b0, b1, b2, bl⟩ : w12.cell? ⟨bb, 0, none⟩ = some (.slice go F.length F.length) ∧ w12.cell? ⟨bb, 1, none⟩ = some (.slice ho T.length T.length) ∧ w12.cell? ⟨bb, 2, none⟩ = some (.slice ko V.length V.length) ∧ bb < w12.heap.size := by
                  have gg := (HK8.out w12 (HM11.out.2.later h)).1.2.2.1
                  obtain ⟨c0, c1, c2⟩ := box3 gg
                  exact ⟨c0, c1, c2, lt_of_get gg⟩
                clear hArr h d0 d1 dl
                go_wp2_with fail
                have hB := Below.alloc (below_new3 w12 (.cells #[.slice fo' F.length fc, .slice uo' T.length uc, .slice wo' V.length wc] 47)) (by simp) (.cells #[.int .i64 C, .slice po pl pc] 50)
                have hN : ((w12.alloc (.cells #[.slice fo' F.length fc, .slice uo' T.length uc, .slice wo' V.length wc] 47)).alloc (.cells #[.int .i64 C, .slice po pl pc] 50)).heap[w12.heap.size]? = some (.cells #[.slice fo' F.length fc, .slice uo' T.length uc, .slice wo' V.length wc] 47) := by
                  rw [Below.heap_alloc _ _ _ (by simp)]; exact heap_new _ _
                generalize (w12.alloc (.cells #[.slice fo' F.length fc, .slice uo' T.length uc, .slice wo' V.length wc] 47)).alloc (.cells #[.int .i64 C, .slice po pl pc] 50) = W12 at *
                have H12 : Hid (W12.heap[w12.heap.size]? = some (.cells #[.slice fo' F.length fc, .slice uo' T.length uc, .slice wo' V.length wc] 47) ∧ Arr W12 F T V fo' uo' wo' fc uc wc ∧ Below W11.heap.size W11 W12) := ⟨hN, S12.out.1.keep hB, btr S12.out.2 hB⟩
                generalize w12.heap.size = wb at *
                clear hB hN S12 b0 b1 b2 bl
                refine (HGR.out W12 _ _ _ _ _ _ (HK8.out W12 (HM11.out.2.later H12.out.2.2)).2.1).mono ?_
                rintro e w13 ⟨lo2, lc2, v13, rfl, ho13, h⟩
                have S13 : Hid (HasArcs w13 (.slice lo2 l.length lc2) l ∧ Below W12.heap.size W12 w13) := ⟨arcs_of_rowC ho13, h⟩
                obtain ⟨q0, q1, q2, ql⟩ : w13.cell? ⟨wb, 0, none⟩ = some (.slice fo' F.length fc) ∧ w13.cell? ⟨wb, 1, none⟩ = some (.slice uo' T.length uc) ∧ w13.cell? ⟨wb, 2, none⟩ = some (.slice wo' V.length wc) ∧ wb < w13.heap.size := by
                  have gg := (h.block _ (lt_of_get H12.out.1)).trans H12.out.1
                  obtain ⟨c0, c1, c2⟩ := box3 gg
                  exact ⟨c0, c1, c2, lt_of_get gg⟩
                clear ho13 h
                go_wp2_with fail
                have hB := below_new3 w13 (.cells #[.int .i64 M, .slice lo2 l.length lc2] 24)
                have hN := heap_new w13 (.cells #[.int .i64 M, .slice lo2 l.length lc2] 24)
                generalize w13.alloc (.cells #[.int .i64 M, .slice lo2 l.length lc2] 24) = W13 at *
                have H13 : Hid (W13.heap[w13.heap.size]? = some (.cells #[.int .i64 M, .slice lo2 l.length lc2] 24) ∧ HasArcs W13 (.slice lo2 l.length lc2) l ∧ Below W12.heap.size W12 W13) := ⟨hN, S13.out.1.keep hB, btr S13.out.2 hB⟩
                generalize w13.heap.size = kb at *
                clear hB hN S13 q0 q1 q2 ql
                refine (HDG.out W13 _ _ _ _ _ _ (H12.out.2.1.keep H13.out.2.2)).mono ?_
                rintro e w14 ⟨no, nc, C2, po2, pl2, pc2, rfl, hA14, h⟩
                have S14 : Hid (HasArcs w14 (.slice no l.length nc) l ∧ Below W13.heap.size W13 w14) := ⟨hA14, h⟩
                clear hA14 h
                go_upto_region 37 with fail
                have hB := Below.alloc (below_new3 w14 (.cells #[.int .i64 M, .slice no l.length nc] 24)) (by simp) (.cells #[.int .i64 C2, .slice po2 pl2 pc2] 50)
                have hN : ((w14.alloc (.cells #[.int .i64 M, .slice no l.length nc] 24)).alloc (.cells #[.int .i64 C2, .slice po2 pl2 pc2] 50)).heap[w14.heap.size]? = some (.cells #[.int .i64 M, .slice no l.length nc] 24) := by
                  rw [Below.heap_alloc _ _ _ (by simp)]; exact heap_new _ _
                generalize (w14.alloc (.cells #[.int .i64 M, .slice no l.length nc] 24)).alloc (.cells #[.int .i64 C2, .slice po2 pl2 pc2] 50) = W14 at *
                have H14 : Hid (W14.heap[w14.heap.size]? = some (.cells #[.int .i64 M, .slice no l.length nc] 24) ∧ HasArcs W14 (.slice no l.length nc) l ∧ Below W13.heap.size W13 W14) := ⟨hN, S14.out.1.keep hB, btr S14.out.2 hB⟩
                generalize w14.heap.size = nb at *
                clear hB hN S14
                have HK14 : Hid (∀ wx, Below W14.heap.size W14 wx → ((wx.cell? ⟨bb, 0, none⟩ = some (.slice go F.length F.length) ∧ wx.cell? ⟨bb, 1, none⟩ = some (.slice ho T.length T.length) ∧ wx.cell? ⟨bb, 2, none⟩ = some (.slice ko V.length V.length)) ∧ wx.cell? ⟨ab, 0, none⟩ = some (.slice fo F.length F.length) ∧ (wx.cell? ⟨wb, 0, none⟩ = some (.slice fo' F.length fc) ∧ wx.cell? ⟨wb, 1, none⟩ = some (.slice uo' T.length uc) ∧ wx.cell? ⟨wb, 2, none⟩ = some (.slice wo' V.length wc)) ∧ (wx.cell? ⟨kb, 0, none⟩ = some (.int .i64 M) ∧ wx.cell? ⟨kb, 1, none⟩ = some (.slice lo2 l.length lc2)) ∧ (wx.cell? ⟨nb, 0, none⟩ = some (.int .i64 M) ∧ wx.cell? ⟨nb, 1, none⟩ = some (.slice no l.length nc))) ∧ (bb < wx.heap.size ∧ ab < wx.heap.size ∧ wb < wx.heap.size ∧ kb < wx.heap.size ∧ nb < wx.heap.size) ∧ Arr wx F T V go ho ko F.length T.length V.length ∧ Arr wx F T V fo' uo' wo' fc uc wc ∧ HasArcs wx (.slice lo2 l.length lc2) l ∧ HasArcs wx (.slice no l.length nc) l ∧ wx.ownsRow w.heap.size 3 1 (.slice fo F.length F.length) F.length (List.replicate F.length m7) ∧ Below w.heap.size w wx) := fun wx hx => by
                  have d13 := btr H14.out.2.2 hx
                  have d12 := btr H13.out.2.2 d13
                  have d11 := btr H12.out.2.2 d12
                  obtain ⟨⟨_, ga, gb, _, _⟩, hAr, _, hbe⟩ := HK8.out wx (HM11.out.2.later d11)
                  have gw := (d12.block _ (lt_of_get H12.out.1)).trans H12.out.1
                  have gk := (d13.block _ (lt_of_get H13.out.1)).trans H13.out.1
                  have gn := (hx.block _ (lt_of_get H14.out.1)).trans H14.out.1
                  exact ⟨⟨box3 gb, (box3 ga).1, box3 gw, ⟨(cell_two gk).1, (cell_two gk).2.1⟩, ⟨(cell_two gn).1, (cell_two gn).2.1⟩⟩, ⟨lt_of_get gb, lt_of_get ga, lt_of_get gw, lt_of_get gk, lt_of_get gn⟩, hAr, H12.out.2.1.keep d12, H13.out.2.1.keep d13, H14.out.2.1.keep hx, row_stay HF11.out (fun k hk _ => d11.block k hk), hbe⟩
                clear H14 H13 H12 HF11 HAX HM11 HK8 HM10 HM9 M8 HBU HDB HGR HDG HRO HL HNO
                have HOF : Hid (∀ wx, Below W14.heap.size W14 wx → Calls Try.prog 20 #[.agg #[.slice go F.length F.length, .slice ho T.length T.length, .slice ko V.length V.length]] wx fun e w' => e = .returned (.agg #[.slice go F.length F.length, .slice ho T.length T.length, .slice ko V.length V.length]) ∧ Below W14.heap.size W14 w') := fun wx hx => by
                  refine (lawOf_calls go ho ko F.length F.length T.length T.length V.length V.length wx).mono ?_
                  rintro e w' ⟨he, rfl⟩
                  exact ⟨he, (hx.alloc hx.size _).alloc (by simp; have := hx.size; omega) _⟩
                have HSM : Hid (∀ wx, Below W14.heap.size W14 wx → Calls Try.prog 19 #[.agg #[.slice go F.length F.length, .slice ho T.length T.length, .slice ko V.length V.length], .agg #[.slice fo' F.length fc, .slice uo' T.length uc, .slice wo' V.length wc]] wx fun e w' => e = .returned (.bool true) ∧ Below W14.heap.size W14 w') := fun wx hx => by
                  obtain ⟨_, _, hA, hA', _, _, _, _⟩ := HK14.out wx hx
                  refine (rSame_yes go ho ko fo' uo' wo' F.length F.length T.length T.length V.length V.length fc uc wc F T V wx hA.f hA.t hA.w hA'.f hA'.t hA'.w (by unfold maxLen; omega) (by unfold maxLen; omega) (by unfold maxLen; omega)).mono ?_
                  rintro e w' ⟨he, h⟩
                  exact ⟨he, btr hx h⟩
                have HGS : Hid (∀ wx, Below W14.heap.size W14 wx → Calls Try.prog 12 #[.agg #[.int .i64 M, .slice lo2 l.length lc2], .agg #[.int .i64 M, .slice no l.length nc]] wx fun e w' => e = .returned (.bool true) ∧ Below W14.heap.size W14 w') := fun wx hx => by
                  obtain ⟨_, _, _, _, hA, hA', _, _⟩ := HK14.out wx hx
                  refine (same_yes M lo2 no l.length l.length lc2 nc l wx hA hA' (by unfold maxLen; omega)).mono ?_
                  rintro e w' ⟨he, h⟩
                  exact ⟨he, btr hx h⟩
                have HSI : Hid (∀ p, F.length = p + 1 → ∃ gf, fo = some ⟨gf, 0, none⟩ ∧ ∀ wx b, Below W14.heap.size W14 wx → wx.heap[b]? = some (.cells #[.int .i64 (-7)] 3) → Calls Try.prog 21 #[.slice (some ⟨gf, 0, none⟩) 1 (p + 1), .slice (some ⟨b, 0, none⟩) 1 1] wx fun e w' => e = .returned (.bool true) ∧ Below W14.heap.size W14 w') := fun p hp => by
                  obtain ⟨gf, cf, e, _, _⟩ := (HK14.out W14 (Below.refl _ _)).2.2.2.2.2.2.1.form (by omega)
                  injection e with e1
                  refine ⟨gf, e1, fun wx b hx hb => ?_⟩
                  have hr := (HK14.out wx hx).2.2.2.2.2.2.1
                  rw [e1] at hr
                  have hc : wx.cell? ⟨gf, 0, none⟩ = some m7 := by
                    rw [hr.cellAt 0 (by omega), List.getElem?_replicate, if_pos (by omega)]
                  have hA : HasInts wx (.slice (some ⟨gf, 0, none⟩) 1 (p + 1)) [-7] := by
                    refine ⟨_, _, rfl, fun j a hj => ?_⟩
                    rcases j with _ | j
                    · simp at hj
                      subst hj
                      exact ⟨gf, 0, rfl, (row_lt hr (k := gf) rfl).2, hc⟩
                    · simp at hj
                  refine (sameInts_yes _ _ [-7] wx hA (ints_of_block (l := [-7]) hb 1) (by unfold maxLen; decide)).mono ?_
                  rintro e w' ⟨he, h⟩
                  exact ⟨he, btr hx h⟩
                have HC : Hid (∀ wx, Below W14.heap.size W14 wx → ((wx.cell? ⟨bb, 0, none⟩ = some (.slice go F.length F.length) ∧ wx.cell? ⟨bb, 1, none⟩ = some (.slice ho T.length T.length) ∧ wx.cell? ⟨bb, 2, none⟩ = some (.slice ko V.length V.length)) ∧ wx.cell? ⟨ab, 0, none⟩ = some (.slice fo F.length F.length) ∧ (wx.cell? ⟨wb, 0, none⟩ = some (.slice fo' F.length fc) ∧ wx.cell? ⟨wb, 1, none⟩ = some (.slice uo' T.length uc) ∧ wx.cell? ⟨wb, 2, none⟩ = some (.slice wo' V.length wc)) ∧ (wx.cell? ⟨kb, 0, none⟩ = some (.int .i64 M) ∧ wx.cell? ⟨kb, 1, none⟩ = some (.slice lo2 l.length lc2)) ∧ (wx.cell? ⟨nb, 0, none⟩ = some (.int .i64 M) ∧ wx.cell? ⟨nb, 1, none⟩ = some (.slice no l.length nc))) ∧ (bb < wx.heap.size ∧ ab < wx.heap.size ∧ wb < wx.heap.size ∧ kb < wx.heap.size ∧ nb < wx.heap.size) ∧ Below w.heap.size w wx) := fun wx hx => ⟨(HK14.out wx hx).1, (HK14.out wx hx).2.1, (HK14.out wx hx).2.2.2.2.2.2.2⟩
                clear HK14
                generalize F.length = fl at *
                generalize T.length = tl at *
                generalize V.length = vl at *
                generalize l.length = ll at *
                obtain ⟨⟨⟨q0, q1, q2⟩, q3, ⟨q4, q5, q6⟩, ⟨q7, q8⟩, ⟨q9, q10⟩⟩, ⟨z0, z1, z2, z3, z4⟩, _⟩ := HC.out W14 (Below.refl _ _)
                rcases Nat.eq_zero_or_pos fl with hf0 | hf0
                · subst hf0
                  clear HSI
                  refine wp_region_held_drew (S := (fun w' => (w'.cell? ⟨bb, 0, none⟩ = some (.slice go 0 0) ∧ w'.cell? ⟨bb, 1, none⟩ = some (.slice ho tl tl) ∧ w'.cell? ⟨bb, 2, none⟩ = some (.slice ko vl vl)) ∧ w'.cell? ⟨ab, 0, none⟩ = some (.slice fo 0 0) ∧ (w'.cell? ⟨wb, 0, none⟩ = some (.slice fo' 0 fc) ∧ w'.cell? ⟨wb, 1, none⟩ = some (.slice uo' tl uc) ∧ w'.cell? ⟨wb, 2, none⟩ = some (.slice wo' vl wc)) ∧ (w'.cell? ⟨kb, 0, none⟩ = some (.int .i64 M) ∧ w'.cell? ⟨kb, 1, none⟩ = some (.slice lo2 ll lc2)) ∧ (w'.cell? ⟨nb, 0, none⟩ = some (.int .i64 M) ∧ w'.cell? ⟨nb, 1, none⟩ = some (.slice no ll nc)))) (by kernel_rfl) ⟨⟨q0, q1, q2⟩, q3, ⟨q4, q5, q6⟩, ⟨q7, q8⟩, ⟨q9, q10⟩⟩ (fun hHeld => ?_)
                  refine wpAnyH_take (i := 0) (oi := { dst := some 126, op := Op.load 28 (Operand.tmp 7), type := 28, pos := "law.go:186", after := #[], guard := none }) (v := ?v0) rfl (by kernel_rfl) (by kernel_rfl) (by kernel_rfl) (fun _ _ _ h => h) (Or.inl ⟨by rfl, ?h0⟩) (by assumption) ?r0
                  case h0 => ((intro wz hSw; (try dsimp only at hSw); go_simp); try (with_reducible rfl))
                  simp only [Act.put, List.setIfInBounds_toArray, List.set_cons_zero, List.set_cons_succ]
                  refine wpAnyH_take (i := 2) (oi := { dst := some 128, op := Op.load 47 (Operand.tmp 19), type := 47, pos := "law.go:186", after := #[], guard := none }) (v := ?v2) rfl (by kernel_rfl) (by kernel_rfl) (by kernel_rfl) (fun _ _ _ h => h) (Or.inl ⟨by rfl, ?h2⟩) (by assumption) ?r2
                  case h2 => ((intro wz hSw; (try dsimp only at hSw); go_simp); try (with_reducible rfl))
                  simp only [Act.put, List.setIfInBounds_toArray, List.set_cons_zero, List.set_cons_succ]
                  refine wpAnyH_ready (rs := [1]) (by kernel_rfl) (by simp) ?_
                  refine AllReadyH.cons (o := { dst := some 127, op := Op.call { callee := Callee.value (Operand.func 20), args := #[Operand.tmp 126], argTypes := #[28] }, type := 47, pos := "law.go:186", after := #[{ on := 0, ground := Ground.data }], guard := none }) rfl (fun K hK => ?_) AllReadyH.nil
                  go_simp
                  go_at_call 20; refine (HOF.out _ (Below.refl _ _).drew).mono ?_; rintro e w15 ⟨rfl, h⟩; have HB1 : Hid (Below W14.heap.size W14 w15) := h; obtain ⟨⟨⟨t0, t1, t2⟩, t3, ⟨t4, t5, t6⟩, ⟨t7, t8⟩, ⟨t9, t10⟩⟩, ⟨y0, y1, y2, y3, y4⟩, _⟩ := HC.out w15 h; clear h
                  go_wp2_with fail
                  refine hK.out _ _ ⟨⟨t0, t1, t2⟩, t3, ⟨t4, t5, t6⟩, ⟨t7, t8⟩, ⟨t9, t10⟩⟩ (fun hHeld2 => ?_)
                  clear hK K hHeld
                  refine wpAnyH_ready (rs := [3]) (by kernel_rfl) (by simp) ?_
                  refine AllReadyH.cons (o := { dst := some 129, op := Op.call { callee := Callee.value (Operand.func 19), args := #[Operand.tmp 127, Operand.tmp 128], argTypes := #[47, 47] }, type := 4, pos := "law.go:186", after := #[{ on := 1, ground := Ground.data }, { on := 2, ground := Ground.data }, { on := 1, ground := Ground.chain }], guard := none }) rfl (fun K hK => ?_) AllReadyH.nil
                  go_simp
                  go_at_call 19; refine (HSM.out _ HB1.out).mono ?_; rintro e w16 ⟨rfl, h⟩; have HB2 : Hid (Below W14.heap.size W14 w16) := h; obtain ⟨⟨⟨t0, t1, t2⟩, t3, ⟨t4, t5, t6⟩, ⟨t7, t8⟩, ⟨t9, t10⟩⟩, ⟨y0, y1, y2, y3, y4⟩, _⟩ := HC.out w16 h; clear h
                  go_wp2_with fail
                  refine hK.out _ _ ⟨⟨t0, t1, t2⟩, t3, ⟨t4, t5, t6⟩, ⟨t7, t8⟩, ⟨t9, t10⟩⟩ (fun hHeld3 => ?_)
                  clear hK K hHeld2
                  refine wpAnyH_take (i := 4) (oi := { dst := some 130, op := Op.move (Operand.tmp 129), type := 4, pos := "law.go:186", after := #[{ on := 3, ground := Ground.data }, { on := 3, ground := Ground.chain }], guard := none }) (v := ?v4) rfl (by kernel_rfl) (by kernel_rfl) (by kernel_rfl) (fun _ _ _ h => h) (Or.inl ⟨by rfl, ?h4⟩) (by assumption) ?r4
                  case h4 => ((intro wz hSw; (try dsimp only at hSw); go_simp); try (with_reducible rfl))
                  simp only [Act.put, List.setIfInBounds_toArray, List.set_cons_zero, List.set_cons_succ]
                  refine wpAnyH_take (i := 5) (oi := { dst := some 131, op := Op.load 24 (Operand.tmp 21), type := 24, pos := "law.go:186", after := #[{ on := 4, ground := Ground.guard }], guard := some (4, true) }) (v := ?v5) rfl (by kernel_rfl) (by kernel_rfl) (by kernel_rfl) (fun _ _ _ h => h) (Or.inl ⟨by rfl, ?h5⟩) (by assumption) ?r5
                  case h5 => ((intro wz hSw; (try dsimp only at hSw); go_simp); try (with_reducible rfl))
                  simp only [Act.put, List.setIfInBounds_toArray, List.set_cons_zero, List.set_cons_succ]
                  refine wpAnyH_take (i := 6) (oi := { dst := some 132, op := Op.load 24 (Operand.tmp 23), type := 24, pos := "law.go:186", after := #[{ on := 4, ground := Ground.guard }], guard := some (4, true) }) (v := ?v6) rfl (by kernel_rfl) (by kernel_rfl) (by kernel_rfl) (fun _ _ _ h => h) (Or.inl ⟨by rfl, ?h6⟩) (by assumption) ?r6
                  case h6 => ((intro wz hSw; (try dsimp only at hSw); go_simp); try (with_reducible rfl))
                  simp only [Act.put, List.setIfInBounds_toArray, List.set_cons_zero, List.set_cons_succ]
                  refine wpAnyH_ready (rs := [7]) (by kernel_rfl) (by simp) ?_
                  refine AllReadyH.cons (o := { dst := some 133, op := Op.call { callee := Callee.value (Operand.func 12), args := #[Operand.tmp 131, Operand.tmp 132], argTypes := #[24, 24] }, type := 4, pos := "law.go:186", after := #[{ on := 5, ground := Ground.data }, { on := 6, ground := Ground.data }, { on := 4, ground := Ground.chain }, { on := 4, ground := Ground.guard }], guard := some (4, true) }) rfl (fun K hK => ?_) AllReadyH.nil
                  go_simp
                  go_at_call 12; refine (HGS.out _ HB2.out).mono ?_; rintro e w17 ⟨rfl, h⟩; have HB3 : Hid (Below W14.heap.size W14 w17) := h; obtain ⟨⟨⟨t0, t1, t2⟩, t3, ⟨t4, t5, t6⟩, ⟨t7, t8⟩, ⟨t9, t10⟩⟩, ⟨y0, y1, y2, y3, y4⟩, _⟩ := HC.out w17 h; clear h
                  go_wp2_with fail
                  refine hK.out _ _ ⟨⟨t0, t1, t2⟩, t3, ⟨t4, t5, t6⟩, ⟨t7, t8⟩, ⟨t9, t10⟩⟩ (fun hHeld4 => ?_)
                  clear hK K hHeld3
                  refine wpAnyH_take (i := 8) (oi := { dst := some 134, op := Op.pick (Operand.tmp 130) (Operand.tmp 133) (Operand.const (Value.bool false)), type := 4, pos := "law.go:186", after := #[{ on := 4, ground := Ground.data }, { on := 7, ground := Ground.data }], guard := none }) (v := ?v8) rfl (by kernel_rfl) (by kernel_rfl) (by kernel_rfl) (fun _ _ _ h => h) (Or.inl ⟨by rfl, ?h8⟩) (by assumption) ?r8
                  case h8 => ((intro wz hSw; (try dsimp only at hSw); go_simp); try (with_reducible rfl))
                  simp only [Act.put, List.setIfInBounds_toArray, List.set_cons_zero, List.set_cons_succ]
                  refine wpAnyH_take (i := 9) (oi := { dst := some 135, op := Op.move (Operand.tmp 134), type := 4, pos := "law.go:186", after := #[{ on := 8, ground := Ground.data }, { on := 7, ground := Ground.chain }], guard := none }) (v := ?v9) rfl (by kernel_rfl) (by kernel_rfl) (by kernel_rfl) (fun _ _ _ h => h) (Or.inl ⟨by rfl, ?h9⟩) (by assumption) ?r9
                  case h9 => ((intro wz hSw; (try dsimp only at hSw); go_simp); try (with_reducible rfl))
                  simp only [Act.put, List.setIfInBounds_toArray, List.set_cons_zero, List.set_cons_succ]
                  refine wpAnyH_take (i := 10) (oi := { dst := some 136, op := Op.fieldAddr 28 (Operand.tmp 5) 0, type := 0, pos := "law.go:186", after := #[{ on := 9, ground := Ground.guard }], guard := some (9, true) }) (v := ?v10) rfl (by kernel_rfl) (by kernel_rfl) (by kernel_rfl) (fun _ _ _ h => h) (Or.inl ⟨by rfl, ?h10⟩) (by assumption) ?r10
                  case h10 => ((intro wz hSw; (try dsimp only at hSw); go_simp); try (with_reducible rfl))
                  simp only [Act.put, List.setIfInBounds_toArray, List.set_cons_zero, List.set_cons_succ]
                  refine wpAnyH_take (i := 11) (oi := { dst := some 137, op := Op.load 26 (Operand.tmp 136), type := 26, pos := "law.go:186", after := #[{ on := 10, ground := Ground.data }, { on := 9, ground := Ground.guard }], guard := some (9, true) }) (v := ?v11) rfl (by kernel_rfl) (by kernel_rfl) (by kernel_rfl) (fun _ _ _ h => h) (Or.inl ⟨by rfl, ?h11⟩) (by assumption) ?r11
                  case h11 => ((intro wz hSw; (try dsimp only at hSw); go_simp); try (with_reducible rfl))
                  simp only [Act.put, List.setIfInBounds_toArray, List.set_cons_zero, List.set_cons_succ]
                  refine wpAnyH_take (i := 12) (oi := { dst := some 138, op := Op.call { callee := Callee.builtin Builtin.len, args := #[Operand.tmp 137], argTypes := #[26] }, type := 3, pos := "law.go:186", after := #[{ on := 11, ground := Ground.data }, { on := 9, ground := Ground.guard }], guard := some (9, true) }) (v := ?v12) rfl (by kernel_rfl) (by kernel_rfl) (by kernel_rfl) (fun _ _ _ h => h) (Or.inl ⟨by rfl, ?h12⟩) (by assumption) ?r12
                  case h12 => ((intro wz hSw; (try dsimp only at hSw); go_simp); try (with_reducible rfl))
                  simp only [Act.put, List.setIfInBounds_toArray, List.set_cons_zero, List.set_cons_succ]
                  refine wpAnyH_take (i := 13) (oi := { dst := some 139, op := Op.binOp BinOp.eql 3 (Operand.tmp 138) (Operand.const (Value.int IntKind.i64 0)) 3, type := 4, pos := "law.go:186", after := #[{ on := 12, ground := Ground.data }, { on := 9, ground := Ground.guard }], guard := some (9, true) }) (v := ?v13) rfl (by kernel_rfl) (by kernel_rfl) (by kernel_rfl) (fun _ _ _ h => h) (Or.inl ⟨by rfl, ?h13⟩) (by assumption) ?r13
                  case h13 => ((intro wz hSw; (try dsimp only at hSw); go_simp); try (with_reducible rfl))
                  simp only [Act.put, List.setIfInBounds_toArray, List.set_cons_zero, List.set_cons_succ]
                  refine wpAnyH_take (i := 14) (oi := { dst := some 140, op := Op.move (Operand.tmp 139), type := 4, pos := "law.go:186", after := #[{ on := 13, ground := Ground.data }, { on := 9, ground := Ground.chain }, { on := 9, ground := Ground.guard }], guard := some (9, true) }) (v := ?v14) rfl (by kernel_rfl) (by kernel_rfl) (by kernel_rfl) (fun _ _ _ h => h) (Or.inl ⟨by rfl, ?h14⟩) (by assumption) ?r14
                  case h14 => ((intro wz hSw; (try dsimp only at hSw); go_simp); try (with_reducible rfl))
                  simp only [Act.put, List.setIfInBounds_toArray, List.set_cons_zero, List.set_cons_succ]
                  refine wpAnyH_take (i := 15) (oi := { dst := some 141, op := Op.fieldAddr 28 (Operand.tmp 5) 0, type := 0, pos := "law.go:186", after := #[{ on := 14, ground := Ground.guard }], guard := some (14, false) }) (v := undef) rfl (by kernel_rfl) (by kernel_rfl) (by kernel_rfl) (fun _ _ _ h => h) (Or.inr ⟨by rfl, rfl⟩) (by assumption) ?_
                  simp only [Act.put, List.setIfInBounds_toArray, List.set_cons_zero, List.set_cons_succ]
                  refine wpAnyH_take (i := 16) (oi := { dst := some 142, op := Op.load 26 (Operand.tmp 141), type := 26, pos := "law.go:186", after := #[{ on := 15, ground := Ground.data }, { on := 14, ground := Ground.guard }], guard := some (14, false) }) (v := undef) rfl (by kernel_rfl) (by kernel_rfl) (by kernel_rfl) (fun _ _ _ h => h) (Or.inr ⟨by rfl, rfl⟩) (by assumption) ?_
                  simp only [Act.put, List.setIfInBounds_toArray, List.set_cons_zero, List.set_cons_succ]
                  refine wpAnyH_take (i := 17) (oi := { dst := some 143, op := Op.slice 26 (Operand.tmp 142) none (some (Operand.const (Value.int IntKind.i64 1))) none, type := 26, pos := "law.go:186", after := #[{ on := 16, ground := Ground.data }, { on := 14, ground := Ground.guard }], guard := some (14, false) }) (v := undef) rfl (by kernel_rfl) (by kernel_rfl) (by kernel_rfl) (fun _ _ _ h => h) (Or.inr ⟨by rfl, rfl⟩) (by assumption) ?_
                  simp only [Act.put, List.setIfInBounds_toArray, List.set_cons_zero, List.set_cons_succ]
                  refine wpAnyH_take (i := 18) (oi := { dst := some 144, op := Op.buildSlice 26 1 #[(0, Operand.const (Value.int IntKind.i64 (-7)))], type := 26, pos := "law.go:186", after := #[{ on := 14, ground := Ground.guard }], guard := some (14, false) }) (v := undef) rfl (by kernel_rfl) (by kernel_rfl) (by kernel_rfl) (fun _ _ _ h => h) (Or.inr ⟨by rfl, rfl⟩) (by assumption) ?_
                  simp only [Act.put, List.setIfInBounds_toArray, List.set_cons_zero, List.set_cons_succ]
                  refine wpAnyH_take (i := 19) (oi := { dst := some 145, op := Op.call { callee := Callee.value (Operand.func 21), args := #[Operand.tmp 143, Operand.tmp 144], argTypes := #[26, 26] }, type := 4, pos := "law.go:186", after := #[{ on := 17, ground := Ground.data }, { on := 18, ground := Ground.data }, { on := 14, ground := Ground.chain }, { on := 14, ground := Ground.guard }], guard := some (14, false) }) (v := undef) rfl (by kernel_rfl) (by kernel_rfl) (by kernel_rfl) (fun _ _ _ h => h) (Or.inr ⟨by rfl, rfl⟩) (by assumption) ?_
                  simp only [Act.put, List.setIfInBounds_toArray, List.set_cons_zero, List.set_cons_succ]
                  refine wpAnyH_take (i := 20) (oi := { dst := some 146, op := Op.pick (Operand.tmp 140) (Operand.const (Value.bool true)) (Operand.tmp 145), type := 4, pos := "law.go:186", after := #[{ on := 14, ground := Ground.data }, { on := 19, ground := Ground.data }, { on := 9, ground := Ground.guard }], guard := some (9, true) }) (v := ?v20) rfl (by kernel_rfl) (by kernel_rfl) (by kernel_rfl) (fun _ _ _ h => h) (Or.inl ⟨by rfl, ?h20⟩) (by assumption) ?r20
                  case h20 => ((intro wz hSw; (try dsimp only at hSw); go_simp); try (with_reducible rfl))
                  simp only [Act.put, List.setIfInBounds_toArray, List.set_cons_zero, List.set_cons_succ]
                  refine wpAnyH_take (i := 21) (oi := { dst := some 147, op := Op.pick (Operand.tmp 135) (Operand.tmp 146) (Operand.const (Value.bool false)), type := 4, pos := "law.go:186", after := #[{ on := 9, ground := Ground.data }, { on := 20, ground := Ground.data }], guard := none }) (v := ?v21) rfl (by kernel_rfl) (by kernel_rfl) (by kernel_rfl) (fun _ _ _ h => h) (Or.inl ⟨by rfl, ?h21⟩) (by assumption) ?r21
                  case h21 => ((intro wz hSw; (try dsimp only at hSw); go_simp); try (with_reducible rfl))
                  simp only [Act.put, List.setIfInBounds_toArray, List.set_cons_zero, List.set_cons_succ]
                  refine wpAnyH_take (i := 22) (oi := { dst := some 2, op := Op.assign (Operand.tmp 147), type := 4, pos := "law.go:186", after := #[{ on := 21, ground := Ground.data }, { on := 19, ground := Ground.chain }, { on := 0, ground := Ground.phase }, { on := 1, ground := Ground.phase }, { on := 2, ground := Ground.phase }, { on := 3, ground := Ground.phase }, { on := 4, ground := Ground.phase }, { on := 5, ground := Ground.phase }, { on := 6, ground := Ground.phase }, { on := 7, ground := Ground.phase }, { on := 8, ground := Ground.phase }, { on := 9, ground := Ground.phase }, { on := 10, ground := Ground.phase }, { on := 11, ground := Ground.phase }, { on := 12, ground := Ground.phase }, { on := 13, ground := Ground.phase }, { on := 14, ground := Ground.phase }, { on := 15, ground := Ground.phase }, { on := 16, ground := Ground.phase }, { on := 17, ground := Ground.phase }, { on := 18, ground := Ground.phase }, { on := 19, ground := Ground.phase }, { on := 20, ground := Ground.phase }, { on := 21, ground := Ground.phase }], guard := none }) (v := ?v22) rfl (by kernel_rfl) (by kernel_rfl) (by kernel_rfl) (fun _ _ _ h => h) (Or.inl ⟨by rfl, ?h22⟩) (by assumption) ?r22
                  case h22 => ((intro wz hSw; (try dsimp only at hSw); go_simp); try (with_reducible rfl))
                  simp only [Act.put, List.setIfInBounds_toArray, List.set_cons_zero, List.set_cons_succ]
                  refine wpAnyH_done (by kernel_rfl) ?_ _
                  have HBZ : Hid (Below w.heap.size w w17) := (HC.out w17 HB3.out).2.2
                  go_wp2
                  go_ret
                  exact ⟨rfl, HBZ.out⟩
                · obtain ⟨p, rfl⟩ : ∃ p, fl = p + 1 := ⟨fl - 1, by omega⟩
                  obtain ⟨gf, hgf, hSI⟩ := HSI.out p rfl
                  subst hgf
                  have HSJ : Hid (type_of% hSI) := hSI
                  have e5 : ¬ (p : Int) + 1 = 0 := by omega
                  have e6 : ((p : Int) + 1 == 0) = false := beq_eq_false_iff_ne.mpr e5
                  have hsl : ∀ wx, (Instr.slice 26 (.slice (some ⟨gf, 0, none⟩) (p + 1) (p + 1)) none (some (.int .i64 1)) none).run Try.prog wx = .ok (.slice (some ⟨gf, 0, none⟩) 1 (p + 1)) wx := fun wx => islice_one gf p wx
                  clear HSI hSI
                  go_region_held3 (fun w' => (w'.cell? ⟨bb, 0, none⟩ = some (.slice go (p + 1) (p + 1)) ∧ w'.cell? ⟨bb, 1, none⟩ = some (.slice ho tl tl) ∧ w'.cell? ⟨bb, 2, none⟩ = some (.slice ko vl vl)) ∧ w'.cell? ⟨ab, 0, none⟩ = some (.slice (some ⟨gf, 0, none⟩) (p + 1) (p + 1)) ∧ (w'.cell? ⟨wb, 0, none⟩ = some (.slice fo' (p + 1) fc) ∧ w'.cell? ⟨wb, 1, none⟩ = some (.slice uo' tl uc) ∧ w'.cell? ⟨wb, 2, none⟩ = some (.slice wo' vl wc)) ∧ (w'.cell? ⟨kb, 0, none⟩ = some (.int .i64 M) ∧ w'.cell? ⟨kb, 1, none⟩ = some (.slice lo2 ll lc2)) ∧ (w'.cell? ⟨nb, 0, none⟩ = some (.int .i64 M) ∧ w'.cell? ⟨nb, 1, none⟩ = some (.slice no ll nc))) (go_keep) (first
                    | (go_at_call 21; refine (HSJ.out _ _ (HB3.out.alloc HB3.out.size _) (heap_new _ _)).mono ?_; rintro e w18 ⟨rfl, h⟩; have HB4 : Hid (Below W14.heap.size W14 w18) := h; obtain ⟨⟨⟨t0, t1, t2⟩, t3, ⟨t4, t5, t6⟩, ⟨t7, t8⟩, ⟨t9, t10⟩⟩, ⟨y0, y1, y2, y3, y4⟩, _⟩ := HC.out w18 h; clear h)
                    | (go_at_call 12; refine (HGS.out _ HB2.out).mono ?_; rintro e w17 ⟨rfl, h⟩; have HB3 : Hid (Below W14.heap.size W14 w17) := h; obtain ⟨⟨⟨t0, t1, t2⟩, t3, ⟨t4, t5, t6⟩, ⟨t7, t8⟩, ⟨t9, t10⟩⟩, ⟨y0, y1, y2, y3, y4⟩, _⟩ := HC.out w17 h; clear h)
                    | (go_at_call 19; refine (HSM.out _ HB1.out).mono ?_; rintro e w16 ⟨rfl, h⟩; have HB2 : Hid (Below W14.heap.size W14 w16) := h; obtain ⟨⟨⟨t0, t1, t2⟩, t3, ⟨t4, t5, t6⟩, ⟨t7, t8⟩, ⟨t9, t10⟩⟩, ⟨y0, y1, y2, y3, y4⟩, _⟩ := HC.out w16 h; clear h)
                    | (go_at_call 20; refine (HOF.out _ (Below.refl _ _).drew).mono ?_; rintro e w15 ⟨rfl, h⟩; have HB1 : Hid (Below W14.heap.size W14 w15) := h; obtain ⟨⟨⟨t0, t1, t2⟩, t3, ⟨t4, t5, t6⟩, ⟨t7, t8⟩, ⟨t9, t10⟩⟩, ⟨y0, y1, y2, y3, y4⟩, _⟩ := HC.out w15 h; clear h))
                  all_goals
                    have HBZ : Hid (Below w.heap.size w w18) := (HC.out w18 HB4.out).2.2
                    go_wp2
                    go_ret
                    exact ⟨rfl, HBZ.out⟩
end Go.Proofs.Ytgfmalimnbgdeaa
