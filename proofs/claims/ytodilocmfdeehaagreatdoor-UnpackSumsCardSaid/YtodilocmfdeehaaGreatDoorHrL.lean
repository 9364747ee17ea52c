/- A range over an iterator that keeps state of its own (a counter in a box, a loop over another iterator): what the iterator may turn (Turn), what a round keeps (KeepsT), and the law of the caller. -/
import Derived.RangeFuncNested
import Derived.RangeFuncBound
import Derived.RangeFuncCalls
import Derived.RangeFuncLeaves
import Derived.Shelf.Abstract
import Derived.Shelf.RegionOpen
import Derived.WalkKit
import Derived.OwnWalkIn
import Derived.TacticsInMore
import Derived.LoopNIn
import Derived.LoopIn
namespace Go.Proofs.YtodilocmfdeehaaGreatDoor.Hi
open Go.RowKit

/-- what an iterator may do between two rounds: blocks from B on of a kind that Tn lets are turned; blocks come; the rest lies as it lay. -/
structure Turn (Tn : Obj → Prop) (B : Nat) (A C : World) : Prop where
  below : Below B A C
  same : ∀ (k : Nat) (o : Obj), A.heap[k]? = some o → ¬ Tn o → C.heap[k]? = some o
/-- what a round must leave alone: blocks from B on of that kind. -/
structure KeepsT (Tn : Obj → Prop) (B : Nat) (A C : World) : Prop where
  size : A.heap.size ≤ C.heap.size
  same : ∀ (k : Nat) (o : Obj), B ≤ k → A.heap[k]? = some o → Tn o → C.heap[k]? = some o

theorem some_lt {w : World} {k : Nat} {o : Obj} (h : w.heap[k]? = some o) : k < w.heap.size := (Array.getElem?_eq_some_iff.1 h).1
theorem Turn.refl (Tn : Obj → Prop) (B : Nat) (A : World) : Turn Tn B A A := ⟨Below.refl _ _, fun _ _ h _ => h⟩
theorem Turn.trans {Tn : Obj → Prop} {B : Nat} {A C E : World} (h : Turn Tn B A C) (k : Turn Tn B C E) : Turn Tn B A E := ⟨h.below.trans k.below, fun i o hi ho => k.same i o (h.same i o hi ho) ho⟩
theorem Turn.mono {Tn Tn' : Obj → Prop} {B B' : Nat} {A C : World} (h : Turn Tn B A C) (hB : B' ≤ B) (hT : ∀ o, Tn o → Tn' o) : Turn Tn' B' A C := ⟨h.below.mono hB, fun i o hi ho => h.same i o hi (fun hn => ho (hT o hn))⟩
theorem Turn.alloc {Tn : Obj → Prop} {B : Nat} {A C : World} (h : Turn Tn B A C) (hB : B ≤ C.heap.size) (o : Obj) : Turn Tn B A (C.alloc o) := h.trans ⟨(Below.refl _ _).alloc hB o, fun k _ hk _ => (Below.heap_alloc C o k (some_lt hk)).trans hk⟩
theorem Turn.putObj {Tn : Obj → Prop} {B : Nat} {A C : World} (h : Turn Tn B A C) {l : Nat} {o : Obj} (hB : B ≤ l) (hl : C.heap[l]? = some o) (ho : Tn o) (o' : Obj) : Turn Tn B A (C.putObj l o') :=
  h.trans ⟨(Below.refl _ _).grown (grownBy_putObj' C l o') (by have := some_lt hl; omega) (fun k e => by cases e; exact hB), fun k q hk hq => by
    by_cases e : k = l
    · subst e; rw [hl] at hk; cases hk; exact absurd ho hq
    · exact (World.putObj_heap_other e).trans hk⟩
theorem Turn.setCell {Tn : Obj → Prop} {B : Nat} {A C : World} (h : Turn Tn B A C) {p : Addr} {o : Obj} (hB : B ≤ p.block) (hl : C.heap[p.block]? = some o) (ho : Tn o) (v : Value) : Turn Tn B A (C.setCell p v) :=
  h.trans ⟨(Below.refl _ _).setCell hB v, fun k q hk hq => by
    by_cases e : k = p.block
    · subst e; rw [hl] at hk; cases hk; exact absurd ho hq
    · exact (Below.heap_setCell _ _ _ _ e).trans hk⟩

theorem KeepsT.refl (Tn : Obj → Prop) (B : Nat) (A : World) : KeepsT Tn B A A := ⟨Nat.le_refl _, fun _ _ _ h _ => h⟩
theorem KeepsT.trans {Tn : Obj → Prop} {B : Nat} {A C E : World} (h : KeepsT Tn B A C) (k : KeepsT Tn B C E) : KeepsT Tn B A E := ⟨Nat.le_trans h.size k.size, fun i o hB hi ho => k.same i o hB (h.same i o hB hi ho) ho⟩
theorem KeepsT.mono {Tn Tn' : Obj → Prop} {B B' : Nat} {A C : World} (h : KeepsT Tn B A C) (hB : B ≤ B') (hT : ∀ o, Tn' o → Tn o) : KeepsT Tn' B' A C := ⟨h.size, fun i o hi h1 h2 => h.same i o (Nat.le_trans hB hi) h1 (hT o h2)⟩
theorem KeepsT.alloc {Tn : Obj → Prop} {B : Nat} {A C : World} (h : KeepsT Tn B A C) (o : Obj) : KeepsT Tn B A (C.alloc o) := h.trans ⟨by simp, fun k _ _ hk _ => (Below.heap_alloc C o k (some_lt hk)).trans hk⟩
/-- a store into a block below B, or into one that is none of the kind. -/
theorem KeepsT.setCell {Tn : Obj → Prop} {B : Nat} {A C : World} (h : KeepsT Tn B A C) {p : Addr} (hp : p.block < B ∨ ∃ o, C.heap[p.block]? = some o ∧ ¬ Tn o) (v : Value) : KeepsT Tn B A (C.setCell p v) :=
  h.trans ⟨by simp [World.setCell], fun k o hB hk ho => (Below.heap_setCell _ _ _ _ (fun e => by
    subst e
    rcases hp with hp | ⟨q, hq, hn⟩
    · omega
    · rw [hq] at hk; cases hk; exact hn ho)).trans hk⟩
/-- a step that turns one block at most (an append). -/
theorem KeepsT.grown {Tn : Obj → Prop} {B : Nat} {A C E : World} {row : Option Nat} (h : KeepsT Tn B A C) (hg : C.grownBy E row) (hr : ∀ k, row = some k → k < B ∨ ∃ o, C.heap[k]? = some o ∧ ¬ Tn o) : KeepsT Tn B A E :=
  h.trans ⟨hg.size, fun k o hB hk ho => (hg.block k (some_lt hk) (fun e => by
    rcases hr k e.symm with hp | ⟨q, hq, hn⟩
    · omega
    · rw [hq] at hk; cases hk; exact hn ho)).trans hk⟩

/-- a caller's invariant that abides what the iterator does. -/
def AbT {β : Type} (Tn : Obj → Prop) (B : Nat) (J : β → World → Prop) : Prop := ∀ s A C, J s A → Turn Tn B A C → J s C
/-- the contract of an iterator that hands over xs: whatever the caller's rounds do, as long as they leave the iterator's own blocks alone and what it reads (Mem) stays. -/
def SeqT {α : Type} (F : Fence) (n : Nat) (P : Program) (g : Nat) (lb : Array Value) (encs : α → Array Value) (Tn : Obj → Prop) (Mem : World → Prop) (xs : List α) (B : Nat) : Prop :=
  ∀ (l : Nat) (J Jx : List α → World → Prop) (W : World), B ≤ W.heap.size → AbT Tn W.heap.size J → AbT Tn W.heap.size Jx → (∀ pre W1, J pre W1 → Mem W1) →
    (∀ pre x W1, J pre W1 → pre ++ [x] <+: xs → YieldAt F (n - 1) P l (encs x) W1 fun e W' =>
      KeepsT Tn W.heap.size W1 W' ∧ ((e = .returned (.bool true) ∧ J (pre ++ [x]) W') ∨ (e = .returned (.bool false) ∧ Jx (pre ++ [x]) W'))) →
    J [] W →
    CallsIn F n P g (#[.func (.yield l) #[] #[]] ++ lb) W fun e W' => (∃ v, e = .returned v) ∧ (J xs W' ∨ ∃ pre, pre <+: xs ∧ Jx pre W')

/-- how a round may be left. -/
def roundT {α : Type} (Tn : Obj → Prop) (B : Nat) (I Ix : List α → World → Prop) (xs : List α) (W : World) : Exit → Act → World → Prop
  | .normal, _, W' => KeepsT Tn B W W' ∧ I xs W'
  | .ret, _, W' => KeepsT Tn B W W' ∧ Ix xs W'
  | _, _, _ => False

variable {F : Fence} {n : Nat} {P : Program}
/-- THE CALLER: a range over such an iterator, in no round of another. -/
theorem wp_over {α : Type} {g : Operand} {ps : Array Tmp} {assign body : Code} {Q : Exit → Act → World → Prop} {a : Act} {w : World}
    (hro : F.round = none) (h1 : F.depth.isSome = true → 1 ≤ n) {gf : Nat} {lb : Array Value} (hg : a.eval g = .func (.func gf) #[] lb) (hFg : F.fn gf) (eg : ∀ args w, (callFunc gf args).run P w = .ok (.enter gf args) w)
    {encs : α → Array Value} {Tn : Obj → Prop} {Mem : World → Prop} {xs : List α} {B : Nat} (hseq : SeqT F (n - 1) P gf lb encs Tn Mem xs B) (hB : B ≤ w.heap.size) (hT1 : ∀ r, Tn (.loop r)) (hT2 : ∀ d, Tn (.deferred d))
    (hps : ∀ x, (encs x).size = ps.size) (I Ix : List α → World → Prop) (hI : AbT Tn w.heap.size I) (hIx : AbT Tn w.heap.size Ix) (hM : ∀ pre W, I pre W → Mem W) (h0 : I [] w) (Ax : α → Act → World → Prop) (hAx : ∀ x a', AbT Tn w.heap.size (fun (_ : Unit) W => Ax x a' W))
    (hassign : ∀ (l : Nat) (pre : List α) (x : α) (W : World) (K : Act → World → Prop), I pre W → pre ++ [x] <+: xs → (∀ a' W', KeepsT Tn w.heap.size W W' → I pre W' → Ax x a' W' → K a' W') → assign.wpIn (F.inRound l) (n - 1 - 1) P (Exit.then K (fun _ _ _ => False)) { tmps := (ps.zip (encs x)).foldl (fun t (p, v) => t.setIfInBounds p v) a.tmps, defers := [] } W)
    (hbody : ∀ (l : Nat) (pre : List α) (x : α) (a' : Act) (W : World), w.heap.size ≤ l → I pre W → Ax x a' W → pre ++ [x] <+: xs → body.wpIn (F.inRound l) (n - 1 - 1) P (roundT Tn w.heap.size I Ix (pre ++ [x]) W) a' W)
    (hdone : ∀ (D : Nat) (W : World), w.heap.size ≤ D → I xs W → W.heap[D]? = some (.deferred (some [])) → Q .normal { a with defers := { target := .collected D, args := #[] } :: a.defers } W)
    (hstop : ∀ (D : Nat) (pre : List α) (W : World), w.heap.size ≤ D → pre <+: xs → Ix pre W → W.heap[D]? = some (.deferred (some [])) → Code.ret.wpIn F n P Q { a with defers := { target := .collected D, args := #[] } :: a.defers } W) :
    (Code.rangeFunc g ps assign body).wpIn F n P Q a w := by
  refine wpIn_rangeFunc fun fn hfn => ?_
  rw [hro]
  let rc : LoopState → Option Code → Loop := fun st pe => { state := st, pending := pe, fn, tmps := a.tmps, params := ps, assign, body, defers := w.heap.size }
  let W1 := (w.alloc (.deferred (some []))).alloc (.loop (rc .ready none))
  have hL1 : W1.heap[w.heap.size + 1]? = some (.loop (rc .ready none)) := by
    have := World.alloc_heap_new (w.alloc (.deferred (some []))) (.loop (rc .ready none)); rwa [World.size_alloc] at this
  have hK1 : W1.heap[w.heap.size]? = some (.deferred (some [])) := (Below.heap_alloc _ _ _ (by simp)).trans (World.alloc_heap_new w _)
  have hs1 : W1.heap.size = w.heap.size + 1 + 1 := by simp [W1]
  have ht1 : Turn Tn w.heap.size w W1 := ((Turn.refl _ _ _).alloc (Nat.le_refl _) _).alloc (by simp) _
  refine ⟨w.heap.size + 1, [{ target := .collected w.heap.size, args := #[] }], W1, { target := .fn (.func gf) lb, args := #[.func (.yield (w.heap.size + 1)) #[] #[]] }, W1, gf, #[.func (.yield (w.heap.size + 1)) #[] #[]] ++ lb, W1, run_enterLoop_outer _ _ _ _ _, ?_, ?_, ?_, h1, ?_⟩
  · simp only [resolve, hg]
    simp [go_sem]
  · intro f' hf'; simp [Target.leads] at hf'; subst hf'; exact hFg
  · simp [invoke, go_sem, eg]
  have keep : ∀ {A C : World} {k : Nat} {o : Obj}, Turn Tn W1.heap.size A C → k < W1.heap.size → A.heap[k]? = some o → C.heap[k]? = some o := fun ht hk h => (ht.below.block _ hk).trans h
  have small : ∀ {A C : World}, Turn Tn W1.heap.size A C → Turn Tn w.heap.size A C := fun ht => ht.mono (by omega) (fun _ h => h)
  refine (hseq (w.heap.size + 1)
    (fun pre W => I pre W ∧ W.heap[w.heap.size + 1]? = some (.loop (rc .ready none)) ∧ W.heap[w.heap.size]? = some (.deferred (some [])))
    (fun pre W => Ix pre W ∧ W.heap[w.heap.size + 1]? = some (.loop (rc .done (some .ret))) ∧ W.heap[w.heap.size]? = some (.deferred (some [])))
    W1 (by omega) (fun s A C hs ht => ⟨hI s A C hs.1 (small ht), keep ht (by omega) hs.2.1, keep ht (by omega) hs.2.2⟩) (fun s A C hs ht => ⟨hIx s A C hs.1 (small ht), keep ht (by omega) hs.2.1, keep ht (by omega) hs.2.2⟩)
    (fun pre W h => hM pre W h.1) ?_ ⟨hI _ _ _ h0 ht1, hL1, hK1⟩).mono ?_
  · rintro pre x W0 ⟨hi0, hl0, hk0⟩ hpx
    refine ⟨fn, _, assign, body, run_yield (P := P) (args := encs x) hl0 (hps x), roundIn_of_wpIn hfn (hassign _ pre x W0 _ hi0 hpx fun a' W hka hi hax => ?_)⟩
    have hl := hka.same _ _ (by omega) hl0 (hT1 _)
    have hk := hka.same _ _ (Nat.le_refl _) hk0 (hT2 _)
    have hlt := some_lt hl
    refine ⟨_, run_beginRound hl rfl, ?_⟩
    have hl2 : (W.putObj (w.heap.size + 1) (.loop { rc .ready none with state := .busy })).heap[w.heap.size + 1]? = some (.loop { rc .ready none with state := .busy }) := World.putObj_heap_same hlt
    have hk2 : (W.putObj (w.heap.size + 1) (.loop { rc .ready none with state := .busy })).heap[w.heap.size]? = some (.deferred (some [])) := (World.putObj_heap_other (by omega)).trans hk
    have hi2 := hI pre _ _ hi ((Turn.refl _ _ W).putObj (by omega : w.heap.size ≤ w.heap.size + 1) hl (hT1 _) (.loop { rc .ready none with state := .busy }))
    have hax2 := hAx x a' () _ _ hax ((Turn.refl _ _ W).putObj (by omega : w.heap.size ≤ w.heap.size + 1) hl (hT1 _) (.loop { rc .ready none with state := .busy }))
    have k2 : KeepsT Tn W1.heap.size W0 (W.putObj (w.heap.size + 1) (.loop { rc .ready none with state := .busy })) := (hka.mono (by omega) (fun _ h => h)).trans ⟨by simp, fun k o hB' ho _ => (World.putObj_heap_other (by omega)).trans ho⟩
    refine wpIn_mono (hbody _ pre x a' _ (by omega) hi2 hax2 hpx) ?_
    have fin : ∀ (jump : Option Code) (W3 : World), KeepsT Tn w.heap.size (W.putObj (w.heap.size + 1) (.loop { rc .ready none with state := .busy })) W3 →
        (Instr.endRound (w.heap.size + 1) jump).run P W3 = .ok (.bool jump.isNone) (W3.putObj (w.heap.size + 1) (.loop (rc (if jump.isNone then .ready else .done) jump))) ∧ Turn Tn w.heap.size W3 (W3.putObj (w.heap.size + 1) (.loop (rc (if jump.isNone then .ready else .done) jump))) ∧ KeepsT Tn W1.heap.size W0 (W3.putObj (w.heap.size + 1) (.loop (rc (if jump.isNone then .ready else .done) jump))) ∧
        (W3.putObj (w.heap.size + 1) (.loop (rc (if jump.isNone then .ready else .done) jump))).heap[w.heap.size + 1]? = some (.loop (rc (if jump.isNone then .ready else .done) jump)) ∧
        (W3.putObj (w.heap.size + 1) (.loop (rc (if jump.isNone then .ready else .done) jump))).heap[w.heap.size]? = some (.deferred (some [])) := fun jump W3 hk3 => by
      have hl3 := hk3.same _ _ (by omega) hl2 (hT1 _)
      exact ⟨run_endRound (P := P) jump hl3, (Turn.refl _ _ _).putObj (by omega) hl3 (hT1 _) _, (k2.trans (hk3.mono (by omega) (fun _ h => h))).trans ⟨by simp, fun k o hB' ho _ => (World.putObj_heap_other (by omega)).trans ho⟩, World.putObj_heap_same (some_lt hl3), (World.putObj_heap_other (by omega)).trans (hk3.same _ _ (Nat.le_refl _) hk2 (hT2 _))⟩
    rintro e a3 W3 hp
    cases e with
    | normal =>
      obtain ⟨hr, ht, hkk, h4, h5⟩ := fin none W3 hp.1
      exact ⟨_, _, hr, hkk, .inl ⟨rfl, hI _ _ _ hp.2 ht, h4, h5⟩⟩
    | ret =>
      obtain ⟨hr, ht, hkk, h4, h5⟩ := fin (some .ret) W3 hp.1
      exact ⟨_, _, hr, hkk, .inr ⟨rfl, hIx _ _ _ hp.2 ht, h4, h5⟩⟩
    | exit id => exact hp.elim
    | goto t => exact hp.elim
    | panic ch => exact hp.elim
    | outgrown => exact hp.elim
  · rintro e W2 ⟨⟨v, rfl⟩, (⟨hi, hl, hk⟩ | ⟨pre, hp, hi, hl, hk⟩)⟩
    · exact ⟨none, _, run_endLoop (P := P) hl (by simp [rc]), hdone _ _ (Nat.le_refl _) (hI _ _ _ hi ((Turn.refl _ _ _).putObj (by omega) hl (hT1 _) _)) ((World.putObj_heap_other (by omega)).trans hk)⟩
    · exact ⟨some .ret, _, run_endLoop (P := P) hl (by simp [rc]), hstop _ pre _ (Nat.le_refl _) hp (hIx _ _ _ hi ((Turn.refl _ _ _).putObj (by omega) hl (hT1 _) _)) ((World.putObj_heap_other (by omega)).trans hk)⟩

theorem round_any {F : Fence} (hd : F.depth = none) {m m' : Nat} {P : Program} {l : Nat} {f : FuncId} {tmps : Array Value} {assign body : Code} {w : World} {R : Ending → World → Prop} (h : RoundIn F m P l f tmps assign body w R) : RoundIn F m' P l f tmps assign body w R :=
  ⟨h.1, fun c cs _ => h.2 c cs (by simp [Fence.room, hd])⟩
end Go.Proofs.YtodilocmfdeehaaGreatDoor.Hi
