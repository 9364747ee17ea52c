/- A map of labels in memory: what a look-up answers, what a store makes of it. -/
import Derived.Test.YtcfpkbmeblfhoaaWtU
import Derived.Maps.OwnSet
namespace Go.Proofs.Ytcfpkbmeblfhoaa.Wt
open Go Go.RowKit Go.Extern Go.Maps

attribute [local go_sem] Oper.semAt_some

/-- a label, as a value and as a datum. -/
def labV (p : Int × Int) : Value := .agg #[.int .u64 p.1, .int .i64 p.2]
def labD (p : Int × Int) : DataW Unit := .agg [.lit (.int .u64 p.1), .lit (.int .i64 p.2)]
/-- how a label reads. -/
def labR (v : Value) : Option (DataW Unit × List MemPlace) :=
  match v with
  | .agg cs => match cs.toList with
    | [.int .u64 d, .int .i64 h] => some (labD (d, h), [])
    | _ => none
  | _ => none
theorem labR_mk (p : Int × Int) : labR (labV p) = some (labD p, []) := rfl
theorem labR_inv {v : Value} {p : Int × Int} {ps : List MemPlace} (h : labR v = some (labD p, ps)) : v = labV p := by
  unfold labR at h
  split at h
  · rename_i cs
    split at h
    · rename_i d k e
      have h1 := congrArg Prod.fst (Option.some.inj h)
      simp [labD] at h1
      obtain ⟨h1, h2⟩ := h1
      unfold labV
      rw [← h1, ← h2]
      congr 1
      exact Array.toList_inj.1 (by rw [e])
    · cases h
  · cases h
theorem law_wi : Keyed Try.prog 3 := int_keyed Try.underlying3
theorem zero_wi (w : World) : (zeroValue 85).run Try.prog w = .ok (labV (0, 0)) w := by kernel_rfl
theorem key_wi {x : Int} (h : (Lit.int .i64 x).wf = true) : keyOf Try.prog 3 (.int .i64 x) = some (.int .i64 x) := keyOf_int_mk Try.underlying3 h
/-- what a datum holds. -/
def LkIs (D : DataW Unit) (f : Int → Option (Int × Int)) : Prop := ∀ x : Int, (Lit.int .i64 x).wf = true → (f x = none ∧ Maps.has D (.int .i64 x) = false ∧ ∀ z, D.atKey (.int .i64 x) z = z) ∨ (∃ p, f x = some p ∧ Maps.has D (.int .i64 x) = true ∧ ∀ z, D.atKey (.int .i64 x) z = labD p)
/-- a map of labels, of at most n entries. -/
def LMap (w : World) (mb n : Nat) (f : Int → Option (Int × Int)) : Prop := ∃ D : DataW Unit, w.ownsMap Try.prog 3 labR mb n D ∧ LkIs D f
/-- a label more. -/
def updL (f : Int → Option (Int × Int)) (x : Int) (p : Int × Int) : Int → Option (Int × Int) := fun y => if y = x then some p else f y
section
variable {w w' : World} {mb n : Nat} {f : Int → Option (Int × Int)}
theorem LMap.lt (h : LMap w mb n f) : mb < w.heap.size := by obtain ⟨D, h1, _⟩ := h; exact h1.lt
theorem LMap.obj (h : LMap w mb n f) : ∃ es clock, w.heap[mb]? = some (.map es clock) := by
  obtain ⟨D, ⟨es, clock, h1, _⟩, _⟩ := h
  exact ⟨es, clock, h1⟩
theorem LMap.keep (h : LMap w mb n f) (hk : w'.heap[mb]? = w.heap[mb]?) : LMap w' mb n f := by
  obtain ⟨D, ⟨es, clock, h1, h2⟩, h3⟩ := h
  exact ⟨D, ⟨es, clock, hk.trans h1, h2⟩, h3⟩
theorem LMap.up (h : LMap w mb n f) (hb : Below w.heap.size w w') : LMap w' mb n f := h.keep (hb.block _ h.lt)
theorem LMap.drew (h : LMap w mb n f) : LMap w.drew mb n f := h.keep rfl
theorem LMap.new (w : World) : LMap (w.alloc (.map #[] 0)) w.heap.size 0 fun _ => none := ⟨_, World.ownsMap_made _ _ _ _, fun _ _ => Or.inl ⟨rfl, rfl, fun _ => rfl⟩⟩
theorem LMap.look (h : LMap w mb n f) {x : Int} (hx : (Lit.int .i64 x).wf = true) : (Instr.lookup 78 (.map (some mb)) (.int .i64 x) false).run Try.prog w = .ok (labV ((f x).getD (0, 0))) w := by
  obtain ⟨D, h1, h2⟩ := h
  obtain ⟨v, ps, hrun, hv⟩ := h1.lookup law_wi Try.underlying78 (zero_wi w) (labR_mk (0, 0)) (key_wi hx)
  rw [hrun]
  rcases h2 x hx with ⟨h3, _, h5⟩ | ⟨p, h3, _, h5⟩
  · rw [h5] at hv
    rw [labR_inv hv, h3]; rfl
  · rw [h5] at hv
    rw [labR_inv hv, h3]; rfl
theorem LMap.lookOk (h : LMap w mb n f) {x : Int} (hx : (Lit.int .i64 x).wf = true) : (Instr.lookup 78 (.map (some mb)) (.int .i64 x) true).run Try.prog w = .ok (.tuple #[labV ((f x).getD (0, 0)), .bool (f x).isSome]) w := by
  obtain ⟨D, h1, h2⟩ := h
  obtain ⟨v, ps, hrun, hv⟩ := h1.look_ok law_wi Try.underlying78 (zero_wi w) (labR_mk (0, 0)) (key_wi hx)
  rw [hrun]
  rcases h2 x hx with ⟨h3, h4, h5⟩ | ⟨p, h3, h4, h5⟩
  · rw [h5] at hv
    rw [labR_inv hv, h3, h4]; rfl
  · rw [h5] at hv
    rw [labR_inv hv, h3, h4]; rfl
theorem LMap.put (h : LMap w mb n f) {x : Int} (hx : (Lit.int .i64 x).wf = true) (hn : n < maxLen) (p : Int × Int) : ∃ w', (Instr.mapUpdate 78 (.map (some mb)) (.int .i64 x) (labV p)).run Try.prog w = .ok () w' ∧ LMap w' mb (n + 1) (updL f x p) ∧ w.grownBy w' (some mb) := by
  obtain ⟨D, h1, h2⟩ := h
  have hm : Maps.IsMap D := h1.isMap
  obtain ⟨w', hrun, h3, h4⟩ := h1.update law_wi Try.underlying78 hn (key_wi hx) (labR_mk p)
  refine ⟨w', hrun, ⟨_, h3, fun y hy => ?_⟩, h4⟩
  by_cases e : y = x
  · subst e
    exact Or.inr ⟨p, by unfold updL; rw [if_pos rfl], Maps.has_put_same hm (by first | trivial | exact True.intro | (unfold WideAt.IsKeyLit; trivial) | simp [WideAt.IsKeyLit]) _, fun z => Maps.atKey_put_same hm (by first | trivial | (unfold WideAt.IsKeyLit; trivial) | simp [WideAt.IsKeyLit]) _ z⟩
  · have hne : (Lit.int .i64 y) ≠ .int .i64 x := fun e2 => e (by injection e2)
    rcases h2 y hy with ⟨g1, g2, g3⟩ | ⟨q, g1, g2, g3⟩
    · exact Or.inl ⟨by unfold updL; rw [if_neg e]; exact g1, by rw [Maps.has_put_other hne]; exact g2, fun z => by rw [Maps.atKey_put_other hne]; exact g3 z⟩
    · exact Or.inr ⟨q, by unfold updL; rw [if_neg e]; exact g1, by rw [Maps.has_put_other hne]; exact g2, fun z => by rw [Maps.atKey_put_other hne]; exact g3 z⟩
end
end Go.Proofs.Ytcfpkbmeblfhoaa.Wt
