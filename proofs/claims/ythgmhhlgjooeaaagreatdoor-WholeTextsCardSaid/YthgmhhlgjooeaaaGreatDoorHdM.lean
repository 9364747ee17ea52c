/- A region that draws its order: a call that only lays memory, whose answer hangs on nothing that the region lays, may be taken first. -/
import Derived.OrdersHeld
import Derived.Below
import Derived.Deep.RegionHeld3
namespace Go.Proofs.YthgmhhlgjooeaaaGreatDoor.Hi
open Go.RowKit Go.Extern

/-- what was there is as it was. -/
def Grows (w w' : World) : Prop := Below w.heap.size w w'
theorem Grows.refl (w : World) : Grows w w := Below.refl _ _
theorem Grows.trans {a b c : World} (h : Grows a b) (k : Grows b c) : Grows a c := Below.trans h (Below.mono k h.size)
section
variable {P : Program} {md : Region.Mode} {ops : Array Oper} {Q : Exit → Act → World → Prop} {S : World → Prop}

/-- whatever order is picked from here on, and whatever is laid besides ahead of each operation. -/
def wpAnyM (P : Program) (md : Region.Mode) (ops : Array Oper) (Q : Exit → Act → World → Prop) (S : World → Prop) : Nat → Array Bool → Act → World → Prop
  | 0, listed, a, w => Region.ready md ops listed = [] ∧ ∀ w1, Grows w w1 → S w1 → Q .normal a w1
  | fuel + 1, listed, a, w => ∀ w1, Grows w w1 → S w1 →
    (Region.ready md ops listed = [] → Q .normal a w1) ∧
    ∀ i ∈ Region.ready md ops listed, wpOp P ops Q i (fun a' w' => S w' ∧ wpAnyM P md ops Q S fuel (listed.setIfInBounds i true) a' w') a w1

theorem wpAnyM.up {w w1 : World} (hg : Grows w w1) : ∀ {fuel : Nat} {listed : Array Bool} {a : Act}, wpAnyM P md ops Q S fuel listed a w → wpAnyM P md ops Q S fuel listed a w1
  | 0, _, _, h => ⟨h.1, fun w2 h2 hS => h.2 w2 (hg.trans h2) hS⟩
  | _ + 1, _, _, h => fun w2 h2 hS => h w2 (hg.trans h2) hS

theorem wpAnyH_of_M : ∀ (fuel : Nat) (listed : Array Bool) (a : Act) (w : World), wpAnyM P md ops Q S fuel listed a w → S w → wpAnyH P md ops Q S fuel listed a w
  | 0, _, _, w, h, hS => ⟨h.1, h.2 w (Grows.refl w) hS⟩
  | fuel + 1, _, _, w, h, hS => ⟨(h w (Grows.refl w) hS).1, fun i hi => wpOp_mono (fun a' w' h' => ⟨h'.1, wpAnyH_of_M fuel _ a' w' h'.2 h'.1⟩) ((h w (Grows.refl w) hS).2 i hi)⟩

/-- what an operation does: it yields v, and lays memory at most. -/
def UponM (P : Program) (S : World → Prop) (v : Value) (w : World) : Result Next → Prop
  | .ok (.value u) w' => u = v ∧ Grows w w' ∧ S w'
  | .ok (.enter f args) w' => Calls P f args w' fun e w'' => e = .returned v ∧ Grows w w'' ∧ S w''
  | _ => False
def YieldsM (P : Program) (ops : Array Oper) (S : World → Prop) (o : Oper) (v : Value) (a : Act) : Prop :=
  (Region.wanted o (yielded ops a.tmps) = true ∧ ∀ w, S w → UponM P S v w ((execOp a.eval o).run P w)) ∨
  (Region.wanted o (yielded ops a.tmps) = false ∧ v = undef)
theorem YieldsM.of_if {o : Oper} {v : Value} {a : Act} (h : YieldsIf P ops S o v a) : YieldsM P ops S o v a :=
  h.imp (fun ⟨hw, hv⟩ => ⟨hw, fun w hS => by rw [hv w hS]; exact ⟨rfl, Grows.refl w, hS⟩⟩) id
theorem YieldsM.of_call {o : Oper} {v : Value} {a : Act} {f : FuncId} {args : Array Value} (hw : Region.wanted o (yielded ops a.tmps) = true) (he : ∀ w, S w → (execOp a.eval o).run P w = .ok (.enter f args) w)
    (hc : ∀ w, S w → Calls P f args w fun e w' => e = .returned v ∧ Grows w w' ∧ S w') : YieldsM P ops S o v a :=
  .inl ⟨hw, fun w hS => by rw [he w hS]; exact hc w hS⟩

theorem YieldsM.wpOp {i : Nat} {o : Oper} {v : Value} {a : Act} (hi : ops[i]? = some o) (hy : YieldsM P ops S o v a)
    {K : Act → World → Prop} {w : World} (hS : S w) (h : ∀ w', Grows w w' → S w' → K (a.put o.dst v) w') : wpOp P ops Q i K a w := by
  unfold Go.wpOp
  simp only [hi]
  rcases hy with ⟨hw, hv⟩ | ⟨hw, rfl⟩
  · simp only [hw, if_true, Oper.wp]
    have h1 := hv w hS
    generalize (execOp a.eval o).run P w = r at h1 ⊢
    refine .inl ?_
    cases r with
    | halt x w' => exact absurd h1 (by cases x <;> exact id)
    | ok n w' =>
      cases n <;> simp only [UponM] at h1
      case value u => obtain ⟨rfl, h2, h3⟩ := h1; exact h w' h2 h3
      case enter f args =>
        refine Calls.mono h1 fun e w'' he => ?_
        obtain ⟨rfl, h2, h3⟩ := he
        exact h w'' h2 h3
  · simp only [hw, Bool.false_eq_true, if_false]; exact h w (Grows.refl w) hS

theorem YieldsM.of_same {o : Oper} {v : Value} {a a' : Act} (hy : YieldsM P ops S o v a) (he : execOp a'.eval o = execOp a.eval o)
    (hw : Region.wanted o (yielded ops a'.tmps) = Region.wanted o (yielded ops a.tmps)) : YieldsM P ops S o v a' := by
  unfold YieldsM at *
  rw [he, hw]
  exact hy

theorem wpOp_putM {j : Nat} {oi oj : Oper} {v : Value} (hj : ops[j]? = some oj) (hap : oi.apart ops oj = true)
    (hsi : ∀ cs b, oi.op ≠ .select cs b) (hsj : ∀ cs b, oj.op ≠ .select cs b)
    (hQ : ∀ c a w, Q (.panic c) (a.put oi.dst v) w → Q (.panic c) a w) {K : Act → World → Prop} {a : Act} {w : World}
    (hy : YieldsM P ops S oi v a) (h : wpOp P ops Q j K (a.put oi.dst v) w) :
    wpOp P ops Q j (fun a' w' => YieldsM P ops S oi v a' ∧ K (a'.put oi.dst v) w') a w := by
  obtain ⟨h1, h2, h3⟩ := Oper.apart_spec hap
  have keep : ∀ (a : Act), YieldsM P ops S oi v a → ∀ u, YieldsM P ops S oi v (a.put oj.dst u) := fun a hy u =>
    hy.of_same (execOp_put oi hsi a oj.dst u h3) (wanted_put oi a oj.dst u h3)
  have keepD : ∀ d, YieldsM P ops S oi v { a with defers := d :: a.defers } := fun d => hy.of_same rfl rfl
  unfold Go.wpOp at *
  simp only [hj] at *
  rw [wanted_put oj a oi.dst v h1] at h
  split
  · rename_i hw
    simp only [hw, if_true] at h
    rcases h with h | ⟨hasks, hlets⟩
    case inr => exact .inr ⟨by unfold Oper.asks at *; rw [execOp_put oj hsj a oi.dst v h1] at hasks; exact hasks, hlets⟩
    refine .inl ?_
    unfold Oper.wp at *
    rw [execOp_put oj hsj a oi.dst v h1] at h
    generalize (execOp a.eval oj).run P w = r at *
    cases r with
    | ok n w' =>
      cases n <;> simp only [Oper.upon] at h ⊢
      case value u => exact ⟨keep a hy u, by rw [← Act.put_comm a v u h2]; exact h⟩
      case skip => exact ⟨keep a hy _, by rw [← Act.put_comm a v undef h2]; exact h⟩
      case defer d =>
        refine ⟨keep _ (keepD d) _, ?_⟩
        rw [← Act.put_comm _ v undef h2, ← Act.put_defers]
        exact h
      case enter f args =>
        refine Calls.mono h fun e w'' he => ?_
        cases e with
        | returned u => exact ⟨keep a hy u, by rw [← Act.put_comm a v u h2]; exact he⟩
        | panicked c => exact hQ _ _ _ he
        | outgrown => exact he
      case row row args => exact Rows.mono h fun u w'' he => ⟨keep a hy u, by rw [← Act.put_comm a v u h2]; exact he⟩
    | halt x w' =>
      cases x <;> simp only [Oper.upon] at h ⊢
      case panic u => exact hQ _ _ _ h
  · rename_i hw
    simp only [hw] at h
    exact ⟨keep a hy _, by rw [← Act.put_comm a v undef h2]; exact h⟩

theorem wpAnyM_first {i : Nat} {oi : Oper} {v : Value} (hi : ops[i]? = some oi) (hsel : ∀ (j : Nat) (o : Oper) cs b, ops[j]? = some o → o.op ≠ .select cs b)
    (hQ : ∀ c a w, Q (.panic c) (a.put oi.dst v) w → Q (.panic c) a w) :
    ∀ (fuel : Nat) (listed : Array Bool) (a : Act) (w : World),
      (∀ j oj, ops[j]? = some oj → j ≠ i → listed.getD j true = false → (∀ e ∈ oj.after, Region.binds md e = true → e.on ≠ i) → oi.apart ops oj = true) →
      i ∈ Region.ready md ops listed → YieldsM P ops S oi v a →
      wpAnyM P md ops Q S fuel (listed.setIfInBounds i true) (a.put oi.dst v) w → wpAnyM P md ops Q S (fuel + 1) listed a w := by
  intro fuel
  induction fuel with
  | zero =>
    intro listed a w _ hr hy H w1 hg hS
    refine ⟨fun h => (by rw [h] at hr; cases hr), fun j hj => ?_⟩
    by_cases hji : j = i
    · subst hji; exact hy.wpOp hi hS fun w' h1 h2 => ⟨h2, H.up (hg.trans h1)⟩
    · have := ready_mono hj hji
      rw [H.1] at this
      cases this
  | succ fuel ih =>
    intro listed a w hfree hr hy H w1 hg hS
    refine ⟨fun h => (by rw [h] at hr; cases hr), fun j hj => ?_⟩
    by_cases hji : j = i
    · subst hji; exact hy.wpOp hi hS fun w' h1 h2 => ⟨h2, H.up (hg.trans h1)⟩
    · have h1 := (H w1 hg hS).2 j (ready_mono hj hji)
      obtain ⟨hjun, oj, hoj, hall⟩ := mem_ready.1 hj
      have hnot : ∀ e ∈ oj.after, Region.binds md e = true → e.on ≠ i := fun e he hb heq => by
        have h1 := hall e he hb
        have h0 := (mem_ready.1 hr).1
        rw [heq] at h1
        rcases Nat.lt_or_ge i listed.size with h' | h'
        · simp [h'] at h0 h1; rw [h0] at h1; cases h1
        · simp [Array.getElem?_eq_none h'] at h1
      have h2 := wpOp_putM hoj (hfree j oj hoj hji hjun hnot) (fun cs b => hsel i oi cs b hi) (fun cs b => hsel j oj cs b hoj) hQ hy h1
      have hfree' : ∀ k ok, ops[k]? = some ok → k ≠ i → (listed.setIfInBounds j true).getD k true = false →
          (∀ e ∈ ok.after, Region.binds md e = true → e.on ≠ i) → oi.apart ops ok = true := fun k ok hk hki hun hno => by
        refine hfree k ok hk hki ?_ hno
        by_cases hjk : j = k
        · subst hjk; exact hjun
        · rw [getD_set_ne true hjk] at hun; exact hun
      refine wpOp_mono (fun a' w' h3 => ⟨h3.2.1, ih (listed.setIfInBounds j true) a' w' hfree' (ready_mono hr (Ne.symm hji)) h3.1 ?_⟩) h2
      rw [Array.setIfInBounds_comm _ _ hji]
      exact h3.2.2

/-- number i is taken first. -/
theorem wpAnyM_take {i : Nat} {oi : Oper} {v : Value} {fuel : Nat} {listed : Array Bool} {a : Act} {w : World} (hi : ops[i]? = some oi)
    (hs : Region.noSelect ops = true) (hf : Region.free md ops listed i = true) (hr : (Region.ready md ops listed).contains i = true)
    (hQ : ∀ c a w, Q (.panic c) (a.put oi.dst v) w → Q (.panic c) a w) (hy : YieldsM P ops S oi v a)
    (h : wpAnyM P md ops Q S fuel (listed.setIfInBounds i true) (a.put oi.dst v) w) : wpAnyM P md ops Q S (fuel + 1) listed a w :=
  wpAnyM_first hi (Region.noSelect_spec hs) hQ fuel listed a w (Region.free_spec hi hf) (by simpa using hr) hy h

/-- whichever of those that may come up comes up. -/
theorem wpAnyM_ready {rs : List Nat} {fuel : Nat} {listed : Array Bool} {a : Act} {w : World} (hr : Region.ready md ops listed = rs) (hne : rs ≠ [])
    (h : ∀ w1, Grows w w1 → S w1 → ∀ i ∈ rs, Go.wpOp P ops Q i (fun a' w' => S w' ∧ wpAnyM P md ops Q S fuel (listed.setIfInBounds i true) a' w') a w1) : wpAnyM P md ops Q S (fuel + 1) listed a w :=
  fun w1 hg hS => ⟨fun h0 => absurd (hr ▸ h0) hne, hr ▸ h w1 hg hS⟩
theorem wpAnyM_done {listed : Array Bool} {a : Act} {w : World} (hr : Region.ready md ops listed = []) (h : ∀ w1, Grows w w1 → S w1 → Q .normal a w1) :
    ∀ fuel, wpAnyM P md ops Q S fuel listed a w
  | 0 => ⟨hr, h⟩
  | _ + 1 => fun w1 hg hS => ⟨fun _ => h w1 hg hS, by rw [hr]; simp⟩
/-- a thing is laid: the block is new. -/
theorem wpOp_lay {i : Nat} {o : Oper} {a : Act} {w : World} {K : Act → World → Prop} {v : Value} {obj : Obj} (hi : ops[i]? = some o) (hw : Region.wanted o (yielded ops a.tmps) = true)
    (he : (execOp a.eval o).run P w = .ok (.value v) (w.alloc obj)) (h : K (a.put o.dst v) (w.alloc obj)) : Go.wpOp P ops Q i K a w := by
  unfold Go.wpOp
  simp only [hi, hw, if_true]
  refine .inl ?_
  unfold Oper.wp
  rw [he]
  exact h
/-- a store, or what else yields nothing. -/
theorem wpOp_skip {i : Nat} {o : Oper} {a : Act} {w w' : World} {K : Act → World → Prop} (hi : ops[i]? = some o) (hw : Region.wanted o (yielded ops a.tmps) = true)
    (he : (execOp a.eval o).run P w = .ok .skip w') (h : K (a.put o.dst undef) w') : Go.wpOp P ops Q i K a w := by
  unfold Go.wpOp
  simp only [hi, hw, if_true]
  refine .inl ?_
  unfold Oper.wp
  rw [he]
  exact h
theorem heap_newM (w : World) (o : Obj) : (w.alloc o).heap[w.heap.size]? = some o := by show (w.heap.push _)[w.heap.size]? = _; simp
/-- an operation that lays a thing of its own: its place among the operations, itself, what it yields (by the block's number), and what it lays. -/
structure LayM where
  i : Nat
  o : Oper
  val : Nat → Value
  obj : Obj
def LaysM (P : Program) (ops : Array Oper) (r : LayM) (a : Act) : Prop := Region.wanted r.o (yielded ops a.tmps) = true ∧ ∀ wx, (execOp a.eval r.o).run P wx = .ok (.value (r.val wx.heap.size)) (wx.alloc r.obj)
theorem LaysM.put {r : LayM} {oj : Oper} {a : Act} (h : LaysM P ops r a) (hap : oj.apart ops r.o = true) (hs : ∀ cs b, r.o.op ≠ .select cs b) (u : Value) : LaysM P ops r (a.put oj.dst u) := by
  obtain ⟨h1, h2, h3⟩ := Oper.apart_spec hap
  refine ⟨by rw [wanted_put r.o a oj.dst u h1]; exact h.1, fun wx => ?_⟩
  rw [execOp_put r.o hs a oj.dst u h1]
  exact h.2 wx
theorem LaysM.op {r : LayM} {a : Act} {w : World} {K : Act → World → Prop} (ho : ops[r.i]? = some r.o) (h : LaysM P ops r a) (hK : K (a.put r.o.dst (r.val w.heap.size)) (w.alloc r.obj)) : Go.wpOp P ops Q r.i K a w := by
  unfold Go.wpOp
  simp only [ho]
  rw [if_pos h.1]
  refine .inl ?_
  unfold Oper.wp
  rw [h.2 w]
  exact hK
/-- at each time just those that are left may come up. -/
def okM (md : Region.Mode) (ops : Array Oper) : Nat → Array Bool → List LayM → Bool
  | 0, _, R => R.isEmpty
  | m + 1, listed, R => decide (Region.ready md ops listed = R.map LayM.i) && R.all fun r => okM md ops m (listed.setIfInBounds r.i true) (R.eraseP fun q => q.i == r.i)
theorem layM_apart {R : List LayM} (h : (R.all fun r => R.all fun q => r.i == q.i || r.o.apart ops q.o) = true) : ∀ r ∈ R, ∀ q ∈ R, r.i ≠ q.i → r.o.apart ops q.o = true := fun r hr q hq hne => by
  have h1 := List.all_eq_true.1 (List.all_eq_true.1 h r hr) q hq
  rw [Bool.or_eq_true] at h1
  rcases h1 with h1 | h1
  · exact absurd (by simpa using h1) hne
  · exact h1
theorem foldl_membersM {α β : Type} {f g : β → α → β} : ∀ (l : List α) (b : β), (∀ a ∈ l, ∀ b, f b a = g b a) → l.foldl f b = l.foldl g b
  | [], _, _ => rfl
  | a :: l, b, h => by
    simp only [List.foldl_cons]
    rw [h a (by simp)]
    exact foldl_membersM l _ fun x hx => h x (by simp [hx])
theorem layM_unique : ∀ (l : List LayM), (l.map LayM.i).Nodup → ∀ q ∈ l, ∀ r ∈ l, q.i = r.i → q = r
  | [], _, q, hq, _, _, _ => by cases hq
  | b :: l, hn, q, hq, r, hr, e => by
    simp only [List.map_cons, List.nodup_cons, List.mem_map] at hn
    rcases List.mem_cons.1 hq with h1 | h1 <;> rcases List.mem_cons.1 hr with h2 | h2
    · rw [h1, h2]
    · exact absurd ⟨r, h2, by rw [← e, h1]⟩ hn.1
    · exact absurd ⟨q, h1, by rw [e, h2]⟩ hn.1
    · exact layM_unique l hn.2 q h1 r h2 e
/-- what follows, once all of a list are laid: their blocks, in whatever order. -/
def ContM (P : Program) (md : Region.Mode) (ops : Array Oper) (Q : Exit → Act → World → Prop) (S : World → Prop) (fuel : Nat) (R : List LayM) (listed : Array Bool) (a : Act) (w : World) : Prop :=
  ∀ (β : Nat → Nat) (w' : World), (∀ r ∈ R, w'.heap[β r.i]? = some r.obj ∧ w.heap.size ≤ β r.i) → (∀ r ∈ R, ∀ q ∈ R, r.i ≠ q.i → β r.i ≠ β q.i) → Below w.heap.size w w' → wpAnyM P md ops Q S fuel (R.foldl (fun l r => l.setIfInBounds r.i true) listed) (R.foldl (fun a r => a.put r.o.dst (r.val (β r.i))) a) w'
theorem ContM.step {fuel : Nat} {R R' : List LayM} {r : LayM} {listed : Array Bool} {a : Act} {w : World} (h : ContM P md ops Q S fuel R listed a w) (hperm : R.Perm (r :: R')) (hnd : (R.map LayM.i).Nodup) (hap : ∀ r ∈ R, ∀ q ∈ R, r.i ≠ q.i → r.o.apart ops q.o = true) :
    ContM P md ops Q S fuel R' (listed.setIfInBounds r.i true) (a.put r.o.dst (r.val w.heap.size)) (w.alloc r.obj) := by
  have hin : ∀ q ∈ r :: R', q ∈ R := fun q hq => hperm.mem_iff.2 hq
  have huniq : ∀ q ∈ R, q.i = r.i → q = r := fun q hq e => layM_unique R hnd q hq r (hin r (by simp)) e
  have hne : ∀ q ∈ R', q.i ≠ r.i := fun q hq e => by
    have h1 := (hperm.map LayM.i).nodup hnd
    simp only [List.map_cons, List.nodup_cons, List.mem_map] at h1
    exact h1.1 ⟨q, hq, e⟩
  have hout : ∀ q ∈ R, q.i ≠ r.i → q ∈ R' := fun q hq e => by
    rcases List.mem_cons.1 (hperm.mem_iff.1 hq) with h | h
    · exact absurd (by rw [h]) e
    · exact h
  have hal : Below w.heap.size w (w.alloc r.obj) := (Below.refl _ w).alloc (Nat.le_refl _) _
  have hsz : (w.alloc r.obj).heap.size = w.heap.size + 1 := by simp
  intro β w' hβ hβn hb
  have hb2 : Below w.heap.size w w' := hal.trans (hb.mono hal.size)
  have h1 := h (fun i => if i = r.i then w.heap.size else β i) w' (fun q hq => by
    by_cases e : q.i = r.i
    · rw [if_pos e]
      rw [huniq q hq e]
      exact ⟨(hb.block _ (by omega)).trans (heap_newM _ _), Nat.le_refl _⟩
    · rw [if_neg e]
      have := hβ q (hout q hq e)
      exact ⟨this.1, by omega⟩) (fun q hq q' hq' hne' => by
    by_cases e : q.i = r.i <;> by_cases e' : q'.i = r.i
    · exact absurd (e.trans e'.symm) hne'
    · simp only [if_pos e, if_neg e']
      have := (hβ q' (hout q' hq' e')).2
      omega
    · simp only [if_neg e, if_pos e']
      have := (hβ q (hout q hq e)).2
      omega
    · simp only [if_neg e, if_neg e']
      exact hβn q (hout q hq e) q' (hout q' hq' e') hne') hb2
  rw [hperm.foldl_eq' (f := fun (l : Array Bool) (r : LayM) => l.setIfInBounds r.i true) (fun x _ y _ z => by
    by_cases e : x.i = y.i
    · rw [e]
    · exact (Array.setIfInBounds_comm _ _ e).symm ▸ rfl) listed] at h1
  rw [hperm.foldl_eq' (f := fun (a : Act) (q : LayM) => a.put q.o.dst (q.val (if q.i = r.i then w.heap.size else β q.i))) (fun x hx' y hy' z => by
    by_cases e : x.i = y.i
    · have : x = y := layM_unique R hnd x (by first | exact hx' | exact hin x hx') y (by first | exact hy' | exact hin y hy') e
      rw [this]
    · exact (Act.put_comm z _ _ (Oper.apart_spec (hap y (by first | exact hy' | exact hin y hy') x (by first | exact hx' | exact hin x hx') (Ne.symm e))).2.1).symm ▸ rfl) a] at h1
  simp only [List.foldl_cons, if_true] at h1
  rw [foldl_membersM (f := fun (a : Act) (q : LayM) => a.put q.o.dst (q.val (if q.i = r.i then w.heap.size else β q.i))) (g := fun (a : Act) (r : LayM) => a.put r.o.dst (r.val (β r.i))) R' _ (fun q hq b => by rw [if_neg (hne q hq)])] at h1
  exact h1
/-- one of a list is taken out. -/
theorem layM_out {R : List LayM} (hnd : (R.map LayM.i).Nodup) {r : LayM} (hr : r ∈ R) : ∃ R', R.eraseP (fun q => q.i == r.i) = R' ∧ R.Perm (r :: R') ∧ (R'.map LayM.i).Nodup ∧ (∀ q ∈ R', q ∈ R ∧ q.i ≠ r.i) := by
  obtain ⟨r2, l1, l2, _, hp, hR, hE⟩ := List.exists_of_eraseP (p := fun q : LayM => q.i == r.i) hr (by simp)
  have hr2 : r2 = r := layM_unique R hnd r2 (by rw [hR]; simp) r hr (by simpa using hp)
  subst hr2
  have hperm : R.Perm (r2 :: (l1 ++ l2)) := by rw [hR]; exact List.perm_middle
  have h1 := (hperm.map LayM.i).nodup hnd
  simp only [List.map_cons, List.nodup_cons, List.mem_map] at h1
  exact ⟨l1 ++ l2, hE, hperm, h1.2, fun q hq => ⟨hperm.mem_iff.2 (List.mem_cons_of_mem _ hq), fun e => h1.1 ⟨q, hq, e⟩⟩⟩
theorem ContM.up {fuel : Nat} {R : List LayM} {listed : Array Bool} {a : Act} {w w1 : World} (hg : Grows w w1) (h : ContM P md ops Q S fuel R listed a w) : ContM P md ops Q S fuel R listed a w1 :=
  fun β w' h1 h2 h3 => h β w' (fun r hr => ⟨(h1 r hr).1, Nat.le_trans hg.size (h1 r hr).2⟩) h2 (Below.trans hg (Below.mono h3 hg.size))
theorem wpAnyM_lays : ∀ (m : Nat) (R : List LayM) (listed : Array Bool) (a : Act) (w : World) (fuel : Nat), R.length = m → okM md ops m listed R = true → (∀ r ∈ R, ops[r.i]? = some r.o) → (R.map LayM.i).Nodup → (∀ r ∈ R, ∀ q ∈ R, r.i ≠ q.i → r.o.apart ops q.o = true) → (∀ r ∈ R, ∀ cs b, r.o.op ≠ .select cs b) → (∀ r ∈ R, LaysM P ops r a) → (∀ wx, Below w.heap.size w wx → S wx) →
    ContM P md ops Q S fuel R listed a w → wpAnyM P md ops Q S (fuel + m) listed a w
  | 0, R, listed, a, w, fuel, hm, _, _, _, _, _, _, _, h => by
    have : R = [] := List.eq_nil_of_length_eq_zero hm
    subst this
    exact h (fun _ => 0) w (fun r hr => by cases hr) (fun r hr => by cases hr) (Below.refl _ _)
  | m + 1, R, listed, a, w, fuel, hm, hok, hi, hnd, hap, hsel, hL, hS, h => by
    simp only [okM, Bool.and_eq_true, decide_eq_true_eq, List.all_eq_true] at hok
    refine wpAnyM_ready hok.1 (fun e => by have : (R.map LayM.i).length = 0 := by rw [e]; rfl
                                           rw [List.length_map] at this; omega) fun w1 hg hS1 x hx => ?_
    obtain ⟨r, hr, rfl⟩ := List.mem_map.1 hx
    obtain ⟨R', hE, hperm, hnd2, hin⟩ := layM_out hnd hr
    have hlen : R'.length = m := by
      have := hperm.length_eq
      rw [hm, List.length_cons] at this
      omega
    have hal : Below w.heap.size w (w1.alloc r.obj) := Below.alloc hg hg.size _
    have hal1 : Below w1.heap.size w1 (w1.alloc r.obj) := (Below.refl _ w1).alloc (Nat.le_refl _) _
    refine (hL r hr).op (hi r hr) ⟨hS _ hal, ?_⟩
    exact wpAnyM_lays m R' _ _ _ fuel hlen (by rw [← hE]; exact hok.2 r hr) (fun q hq => hi q (hin q hq).1) hnd2 (fun q hq q' hq' => hap q (hin q hq).1 q' (hin q' hq').1) (fun q hq => hsel q (hin q hq).1) (fun q hq => (hL q (hin q hq).1).put (hap r hr q (hin q hq).1 (Ne.symm (hin q hq).2)) (hsel q (hin q hq).1) _) (fun wx hx => hS wx (hal.trans (hx.mono hal.size))) ((h.up hg).step hperm hnd hap)
/-- one alone may come up, and is carried out. -/
theorem readyM {i : Nat} {o : Oper} {fuel : Nat} {listed : Array Bool} {a : Act} {w : World} (ho : ops[i]? = some o) (hr : Region.ready md ops listed = [i])
    (h : ∀ w1, Grows w w1 → S w1 → ∀ K' : Act → World → Prop, Shut (∀ a w, S w → wpAnyM P md ops Q S fuel (listed.setIfInBounds i true) a w → K' a w) → if Region.wanted o (yielded ops a.tmps) = true then Oper.wp P o a w1 K' Q else K' (a.put o.dst undef) w1) : wpAnyM P md ops Q S (fuel + 1) listed a w :=
  wpAnyM_ready hr (by simp) fun w1 hg hS j hj => by
    obtain rfl : j = i := by simpa using hj
    exact wpOp_step ho (fun K' hK => h w1 hg hS K' (fun a w hS hW => hK a w ⟨hS, hW⟩))
/-- one of two may come up. -/
theorem ready2M {i j : Nat} {oi oj : Oper} {fuel : Nat} {listed : Array Bool} {a : Act} {w : World} (hi : ops[i]? = some oi) (hj : ops[j]? = some oj) (hr : Region.ready md ops listed = [i, j])
    (h1 : ∀ w1, Grows w w1 → S w1 → ∀ K' : Act → World → Prop, Shut (∀ a w, S w → wpAnyM P md ops Q S fuel (listed.setIfInBounds i true) a w → K' a w) → if Region.wanted oi (yielded ops a.tmps) = true then Oper.wp P oi a w1 K' Q else K' (a.put oi.dst undef) w1)
    (h2 : ∀ w1, Grows w w1 → S w1 → ∀ K' : Act → World → Prop, Shut (∀ a w, S w → wpAnyM P md ops Q S fuel (listed.setIfInBounds j true) a w → K' a w) → if Region.wanted oj (yielded ops a.tmps) = true then Oper.wp P oj a w1 K' Q else K' (a.put oj.dst undef) w1) : wpAnyM P md ops Q S (fuel + 1) listed a w :=
  wpAnyM_ready hr (by simp) fun w1 hg hS k hk => by
    simp only [List.mem_cons, List.not_mem_nil, or_false] at hk
    rcases hk with rfl | rfl
    · exact wpOp_step hi (fun K' hK => h1 w1 hg hS K' (fun a w hS hW => hK a w ⟨hS, hW⟩))
    · exact wpOp_step hj (fun K' hK => h2 w1 hg hS K' (fun a w hS hW => hK a w ⟨hS, hW⟩))
/-- the beginning. -/
theorem wp_region_M {id : Nat} {a : Act} {w : World} (hm : P.follows .mixedOrders = true) (hS : S w.drew)
    (h : wpAnyM P .any ops Q S ops.size (Array.replicate ops.size false) a w.drew) : (Code.region id ops true).wp P Q a w :=
  wp_region_held hm (wpAnyH_of_M _ _ _ _ h hS)
end
end Go.Proofs.YthgmhhlgjooeaaaGreatDoor.Hi
