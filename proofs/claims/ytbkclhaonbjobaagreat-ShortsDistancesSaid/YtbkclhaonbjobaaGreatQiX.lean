/- A map of labels in memory: what a look-up answers, what a store makes of it. A witness search in memory; its set, walked. What a witness search knows, and what the bounded search of the document knows: alike, step by step. -/
import Derived.Test.YtbkclhaonbjobaaGreatWtU
import Derived.Maps.OwnSet
import Derived.Deep.RegionHeld3
namespace Go.Proofs.YtbkclhaonbjobaaGreat.Wt
open Go Go.RowKit Go.Extern Go.Maps

attribute [local go_sem] Oper.semAt_some

/-- a label, as a value and as a datum. -/
def labV (p : Int × Int) : Value := .agg #[.int .u64 p.1, .int .i64 p.2]
def labD (p : Int × Int) : DataW Unit := .agg [.lit (.int .u64 p.1), .lit (.int .i64 p.2)]
/-- how a label reads. -/
def labR (v : Value) : Option (DataW Unit × List MemPlace) :=
  match v with
  | .agg cs => match cs.toList with
    | [.int .u64 d, .int .i64 h] => some (labD (d, h), [])
    | _ => none
  | _ => none
theorem labR_mk (p : Int × Int) : labR (labV p) = some (labD p, []) := rfl
theorem labR_inv {v : Value} {p : Int × Int} {ps : List MemPlace} (h : labR v = some (labD p, ps)) : v = labV p := by
  unfold labR at h
  split at h
  · rename_i cs
    split at h
    · rename_i d k e
      have h1 := congrArg Prod.fst (Option.some.inj h)
      simp [labD] at h1
      obtain ⟨h1, h2⟩ := h1
      unfold labV
      rw [← h1, ← h2]
      congr 1
      exact Array.toList_inj.1 (by rw [e])
    · cases h
  · cases h
theorem law_wi : Keyed Tryz.prog 3 := int_keyed Tryz.underlying3
theorem zero_wi (w : World) : (zeroValue 180).run Tryz.prog w = .ok (labV (0, 0)) w := by kernel_rfl
theorem key_wi {x : Int} (h : (Lit.int .i64 x).wf = true) : keyOf Tryz.prog 3 (.int .i64 x) = some (.int .i64 x) := keyOf_int_mk Tryz.underlying3 h
/-- what a datum holds. -/
def LkIs (D : DataW Unit) (f : Int → Option (Int × Int)) : Prop := ∀ x : Int, (Lit.int .i64 x).wf = true → (f x = none ∧ Maps.has D (.int .i64 x) = false ∧ ∀ z, D.atKey (.int .i64 x) z = z) ∨ (∃ p, f x = some p ∧ Maps.has D (.int .i64 x) = true ∧ ∀ z, D.atKey (.int .i64 x) z = labD p)
/-- a map of labels, of at most n entries. -/
def LMap (w : World) (mb n : Nat) (f : Int → Option (Int × Int)) : Prop := ∃ D : DataW Unit, w.ownsMap Tryz.prog 3 labR mb n D ∧ LkIs D f
/-- a label more. -/
def updL (f : Int → Option (Int × Int)) (x : Int) (p : Int × Int) : Int → Option (Int × Int) := fun y => if y = x then some p else f y
section
variable {w w' : World} {mb n : Nat} {f : Int → Option (Int × Int)}
theorem LMap.lt (h : LMap w mb n f) : mb < w.heap.size := by obtain ⟨D, h1, _⟩ := h; exact h1.lt
theorem LMap.obj (h : LMap w mb n f) : ∃ es clock, w.heap[mb]? = some (.map es clock) := by
  obtain ⟨D, ⟨es, clock, h1, _⟩, _⟩ := h
  exact ⟨es, clock, h1⟩
theorem LMap.keep (h : LMap w mb n f) (hk : w'.heap[mb]? = w.heap[mb]?) : LMap w' mb n f := by
  obtain ⟨D, ⟨es, clock, h1, h2⟩, h3⟩ := h
  exact ⟨D, ⟨es, clock, hk.trans h1, h2⟩, h3⟩
theorem LMap.up (h : LMap w mb n f) (hb : Below w.heap.size w w') : LMap w' mb n f := h.keep (hb.block _ h.lt)
theorem LMap.drew (h : LMap w mb n f) : LMap w.drew mb n f := h.keep rfl
theorem LMap.new (w : World) : LMap (w.alloc (.map #[] 0)) w.heap.size 0 fun _ => none := ⟨_, World.ownsMap_made _ _ _ _, fun _ _ => Or.inl ⟨rfl, rfl, fun _ => rfl⟩⟩
theorem LMap.look (h : LMap w mb n f) {x : Int} (hx : (Lit.int .i64 x).wf = true) : (Instr.lookup 173 (.map (some mb)) (.int .i64 x) false).run Tryz.prog w = .ok (labV ((f x).getD (0, 0))) w := by
  obtain ⟨D, h1, h2⟩ := h
  obtain ⟨v, ps, hrun, hv⟩ := h1.lookup law_wi Tryz.underlying173 (zero_wi w) (labR_mk (0, 0)) (key_wi hx)
  rw [hrun]
  rcases h2 x hx with ⟨h3, _, h5⟩ | ⟨p, h3, _, h5⟩
  · rw [h5] at hv
    rw [labR_inv hv, h3]; rfl
  · rw [h5] at hv
    rw [labR_inv hv, h3]; rfl
theorem LMap.lookOk (h : LMap w mb n f) {x : Int} (hx : (Lit.int .i64 x).wf = true) : (Instr.lookup 173 (.map (some mb)) (.int .i64 x) true).run Tryz.prog w = .ok (.tuple #[labV ((f x).getD (0, 0)), .bool (f x).isSome]) w := by
  obtain ⟨D, h1, h2⟩ := h
  obtain ⟨v, ps, hrun, hv⟩ := h1.look_ok law_wi Tryz.underlying173 (zero_wi w) (labR_mk (0, 0)) (key_wi hx)
  rw [hrun]
  rcases h2 x hx with ⟨h3, h4, h5⟩ | ⟨p, h3, h4, h5⟩
  · rw [h5] at hv
    rw [labR_inv hv, h3, h4]; rfl
  · rw [h5] at hv
    rw [labR_inv hv, h3, h4]; rfl
theorem LMap.put (h : LMap w mb n f) {x : Int} (hx : (Lit.int .i64 x).wf = true) (hn : n < maxLen) (p : Int × Int) : ∃ w', (Instr.mapUpdate 173 (.map (some mb)) (.int .i64 x) (labV p)).run Tryz.prog w = .ok () w' ∧ LMap w' mb (n + 1) (updL f x p) ∧ w.grownBy w' (some mb) := by
  obtain ⟨D, h1, h2⟩ := h
  have hm : Maps.IsMap D := h1.isMap
  obtain ⟨w', hrun, h3, h4⟩ := h1.update law_wi Tryz.underlying173 hn (key_wi hx) (labR_mk p)
  refine ⟨w', hrun, ⟨_, h3, fun y hy => ?_⟩, h4⟩
  by_cases e : y = x
  · subst e
    exact Or.inr ⟨p, by unfold updL; rw [if_pos rfl], Maps.has_put_same hm (by first | trivial | exact True.intro | (unfold WideAt.IsKeyLit; trivial) | simp [WideAt.IsKeyLit]) _, fun z => Maps.atKey_put_same hm (by first | trivial | (unfold WideAt.IsKeyLit; trivial) | simp [WideAt.IsKeyLit]) _ z⟩
  · have hne : (Lit.int .i64 y) ≠ .int .i64 x := fun e2 => e (by injection e2)
    rcases h2 y hy with ⟨g1, g2, g3⟩ | ⟨q, g1, g2, g3⟩
    · exact Or.inl ⟨by unfold updL; rw [if_neg e]; exact g1, by rw [Maps.has_put_other hne]; exact g2, fun z => by rw [Maps.atKey_put_other hne]; exact g3 z⟩
    · exact Or.inr ⟨q, by unfold updL; rw [if_neg e]; exact g1, by rw [Maps.has_put_other hne]; exact g2, fun z => by rw [Maps.atKey_put_other hne]; exact g3 z⟩
end
end Go.Proofs.YtbkclhaonbjobaaGreat.Wt

namespace Go.Proofs.YtbkclhaonbjobaaGreat.Wt
open Go Go.RowKit Go.Extern

attribute [local go_sem] Oper.semAt_some

section
variable {w w' : World} {sb mb nm : Nat} {c0 c1 c2 c3 sv sv' : Value} {L : Int → Option (Int × Int)} {Q : List Th}
/-- a search in memory: its queue, and its map of labels. -/
structure WS (w : World) (sb mb nm : Nat) (c0 c1 c2 c3 sv : Value) (L : Int → Option (Int × Int)) (Q : List Th) : Prop where
  q : IsQ w sb c0 c1 c2 c3 (.map (some mb)) sv Q
  m : LMap w mb nm L
/-- what calls on it leave alone. -/
structure SFr (sb mb : Nat) (sv sv' : Value) (w w' : World) : Prop where
  os : w'.os = w.os
  tape : w'.tape = w.tape
  output : w'.output = w.output
  size : w.heap.size ≤ w'.heap.size
  block : ∀ k, k < w.heap.size → k ≠ sb → k ≠ mb → some k ≠ sv.ownBlock → w'.heap[k]? = w.heap[k]?
  own : ∀ k, k < w.heap.size → sv'.ownBlock = some k → sv.ownBlock = some k
theorem SFr.refl (sb mb : Nat) (sv : Value) (w : World) : SFr sb mb sv sv w w := ⟨rfl, rfl, rfl, Nat.le_refl _, fun _ _ _ _ _ => rfl, fun _ _ h => h⟩
theorem SFr.trans {sv'' : Value} {w'' : World} (h : SFr sb mb sv sv' w w') (k : SFr sb mb sv' sv'' w' w'') : SFr sb mb sv sv'' w w'' :=
  ⟨k.os.trans h.os, k.tape.trans h.tape, k.output.trans h.output, Nat.le_trans h.size k.size,
   fun j hj h1 h2 h3 => (k.block j (Nat.lt_of_lt_of_le hj h.size) h1 h2 (fun e => h3 (h.own j hj e.symm).symm)).trans (h.block j hj h1 h2 h3),
   fun j hj e => h.own j hj (k.own j (Nat.lt_of_lt_of_le hj h.size) e)⟩
theorem SFr.of_below (h : Below w.heap.size w w') : SFr sb mb sv sv w w' := ⟨h.os, h.tape, h.output, h.size, fun k hk _ _ _ => h.block k hk, fun _ _ e => e⟩
theorem SFr.of_q (h : QFr sb sv sv' w w') : SFr sb mb sv sv' w w' := ⟨h.os, h.tape, h.output, h.size, fun k hk h1 _ h3 => h.block k hk h1 h3, h.own⟩
theorem SFr.of_map (h : w.grownBy w' (some mb)) : SFr sb mb sv sv w w' := ⟨h.os, h.tape, h.output, h.size, fun k hk _ h2 _ => h.block k hk (fun e => h2 (Option.some.inj e)), fun _ _ e => e⟩
theorem SFr.drew (h : SFr sb mb sv sv' w w') : SFr sb mb sv sv' w w'.drew := ⟨h.os, h.tape, h.output, h.size, h.block, h.own⟩
theorem SFr.below {n : Nat} (h : SFr sb mb sv sv' w w') (hn : n ≤ w.heap.size) (h1 : n ≤ sb) (h2 : n ≤ mb) (h3 : ∀ k, sv.ownBlock = some k → n ≤ k) : Below n w w' :=
  ⟨h.os, h.tape, h.output, h.size, fun k hk => h.block k (by omega) (by omega) (by omega) (fun e => by have := h3 k e.symm; omega)⟩
theorem IsQ.keep (h : IsQ w sb c0 c1 c2 c3 (.map (some mb)) sv Q) (hk : ∀ k, k < w.heap.size → (k = sb ∨ sv.ownBlock = some k) → w'.heap[k]? = w.heap[k]?) : IsQ w' sb c0 c1 c2 c3 (.map (some mb)) sv Q := ⟨h.mem.keep hk, h.heap⟩
theorem WS.up (h : WS w sb mb nm c0 c1 c2 c3 sv L Q) (hb : Below w.heap.size w w') : WS w' sb mb nm c0 c1 c2 c3 sv L Q := ⟨h.q.keep fun k hk _ => hb.block k hk, h.m.up hb⟩
theorem WS.drew (h : WS w sb mb nm c0 c1 c2 c3 sv L Q) : WS w.drew sb mb nm c0 c1 c2 c3 sv L Q := ⟨h.q.keep fun _ _ _ => rfl, h.m.drew⟩
theorem own_cells {w : World} {sb k : Nat} {c0 c1 c2 c3 c4 sv : Value} {Q : List Th} (h : QMem w sb c0 c1 c2 c3 c4 sv Q) (hk : sv.ownBlock = some k) : ∃ (c : Array Value) (t : TypeId), w.heap[k]? = some (.cells c t) := by
  rcases h.row.2 with ⟨e, _⟩ | ⟨g, cap, cur, e, _, hh, _⟩
  · rw [e] at hk; cases hk
  · rw [e] at hk
    have e2 : g = k := Option.some.inj hk
    subst e2
    exact ⟨_, _, hh⟩
/-- the map's block is none of the queue's. -/
theorem WS.apart (h : WS w sb mb nm c0 c1 c2 c3 sv L Q) : mb ≠ sb ∧ sv.ownBlock ≠ some mb := by
  obtain ⟨es, cl, hm⟩ := h.m.obj
  refine ⟨fun e => ?_, fun e => ?_⟩
  · have := h.q.mem.box
    rw [← e, hm] at this
    cases this
  · obtain ⟨c, t, hc⟩ := own_cells h.q.mem e
    rw [hm] at hc
    cases hc
/-- a label more in the map. -/
theorem WS.stored (h : WS w sb mb nm c0 c1 c2 c3 sv L Q) {L' : Int → Option (Int × Int)} {n' : Nat} (hm : LMap w' mb n' L') (hg : w.grownBy w' (some mb)) : WS w' sb mb n' c0 c1 c2 c3 sv L' Q :=
  ⟨h.q.keep fun k hk hq => hg.block k hk (fun e => by
    have e2 := Option.some.inj e
    subst e2
    rcases hq with e3 | e3
    · exact h.apart.1 e3
    · exact h.apart.2 e3), hm⟩
/-- behind a call on the queue. -/
theorem WS.queued (h : WS w sb mb nm c0 c1 c2 c3 sv L Q) {Q' : List Th} (hq : IsQ w' sb c0 c1 c2 c3 (.map (some mb)) sv' Q') (hf : QFr sb sv sv' w w') : WS w' sb mb nm c0 c1 c2 c3 sv' L Q' :=
  ⟨hq, h.m.keep (hf.block _ h.m.lt h.apart.1 (fun e => h.apart.2 e.symm))⟩
theorem WS.cells (h : WS w sb mb nm c0 c1 c2 c3 sv L Q) : w.cell? ⟨sb, 0, none⟩ = some c0 ∧ w.cell? ⟨sb, 1, none⟩ = some c1 ∧ w.cell? ⟨sb, 2, none⟩ = some c2 ∧ w.cell? ⟨sb, 3, none⟩ = some c3 ∧ w.cell? ⟨sb, 4, none⟩ = some (.map (some mb)) ∧ w.cell? ⟨sb, 5, none⟩ = some sv ∧ w.frozen? ⟨sb, 3, none⟩ = false ∧ w.frozen? ⟨sb, 5, none⟩ = false := h.q.mem.cells

set_option maxRecDepth 100000 in
set_option maxHeartbeats 4000000 in
theorem wset_calls (h : WS w sb mb nm c0 c1 c2 c3 sv L Q) (x : Int) (hx : (Lit.int .i64 x).wf = true) (d y : Int) (hl : Q.length ≤ 1048576) (hn : nm < maxLen) :
    Calls Tryz.prog 102 #[.pointer (some ⟨sb, 0, none⟩), .int .i64 x, labV (d, y)] w fun e w' => e = .returned (.tuple #[]) ∧ ∃ sv' Q', WS w' sb mb (nm + 1) c0 c1 c2 c3 sv' (updL L x (d, y)) Q' ∧ SFr sb mb sv sv' w w' ∧ Q'.Perm ((d, x) :: Q) := by
  obtain ⟨W0, hW0⟩ : ∃ W0, w.alloc (.cells #[.int .u64 d, .int .i64 y] 180) = W0 := ⟨_, rfl⟩
  have HW0 : Hid (w.alloc (.cells #[.int .u64 d, .int .i64 y] 180) = W0) := hW0
  have hB0 : Below w.heap.size w W0 := by rw [← hW0]; exact (Below.refl _ w).alloc (Nat.le_refl _) _
  have hbx : W0.heap[w.heap.size]? = some (.cells #[.int .u64 d, .int .i64 y] 180) := by rw [← hW0]; exact heap_new _ _
  have HS0 : Hid (WS W0 sb mb nm c0 c1 c2 c3 sv L Q) := h.up hB0
  obtain ⟨w1, hr1, hm1, hg1⟩ := HS0.out.m.drew.put hx hn (d, y)
  have HS1 : Hid (WS w1 sb mb (nm + 1) c0 c1 c2 c3 sv (updL L x (d, y)) Q) := HS0.out.drew.stored hm1 hg1
  have HF1 : Hid (SFr sb mb sv sv w w1) := (SFr.of_below hB0.drew).trans (SFr.of_map hg1)
  have hmb : mb < w.heap.size := h.m.lt
  have hb1 : w1.heap[w.heap.size]? = some (.cells #[.int .u64 d, .int .i64 y] 180) := (hg1.block _ (lt_of_get hbx) (fun e => by have := Option.some.inj e; omega)).trans hbx
  obtain ⟨_, _, _, _, k4, _⟩ := HS0.out.cells
  have l0 : W0.cell? ⟨w.heap.size, 0, none⟩ = some (.int .u64 d) := cell_ofW hbx rfl
  have l1 : W0.cell? ⟨w.heap.size, 1, none⟩ = some (.int .i64 y) := cell_ofW hbx rfl
  have HNE : Hid (w.heap.size ≠ sb ∧ some w.heap.size ≠ sv.ownBlock ∧ w1.heap[w.heap.size]? = some (.cells #[.int .u64 d, .int .i64 y] 180)) := ⟨fun e => by have := lt_of_get h.q.mem.box; omega, fun e => by
    obtain ⟨_, _, hc⟩ := own_cells h.q.mem e.symm
    have := lt_of_get hc
    omega, hb1⟩
  clear h hW0 hB0 hm1 hg1 hmb
  unfold labV at hr1 ⊢
  simp only at hr1 ⊢
  go_enter Tryz.func102, Tryz.ntmps102
  go_wp2_with fail
  rw [HW0.out]
  go_region
  clear hr1 k4 l0 l1 hbx
  have q0 : w1.cell? ⟨w.heap.size, 0, none⟩ = some (.int .u64 d) := cell_ofW hb1 rfl
  have HCP : Hid (Calls Tryz.prog 108 #[.iface 192 (.pointer (some ⟨sb, 5, none⟩)), .iface 182 (.agg #[.int .u64 d, .int .i64 x])] w1.drew fun e w' => e = .returned (.tuple #[]) ∧ ∃ sv' Q', IsQ w' sb c0 c1 c2 c3 (.map (some mb)) sv' Q' ∧ QFr sb sv sv' w1.drew w' ∧ Q'.Perm ((d, x) :: Q)) := chpush_calls HS1.out.drew.q d x hl
  clear hb1
  go_wp2_with fail
  go_region_held3 (fun w' => w'.cell? ⟨w.heap.size, 0, none⟩ = some (.int .u64 d)) (go_keep) (first
    | (go_at_call 108; refine HCP.out.mono ?_; rintro e y1 ⟨rfl, sv', Q', hq, hf, hp⟩; have HY : Hid (WS y1 sb mb (nm + 1) c0 c1 c2 c3 sv' (updL L x (d, y)) Q' ∧ SFr sb mb sv sv' w y1 ∧ Q'.Perm ((d, x) :: Q)) := ⟨HS1.out.drew.queued hq hf, HF1.out.drew.trans (SFr.of_q hf), hp⟩; have q1 : y1.cell? ⟨w.heap.size, 0, none⟩ = some (.int .u64 d) := cell_ofW ((hf.block _ (lt_of_get HNE.out.2.2) HNE.out.1 HNE.out.2.1).trans HNE.out.2.2) rfl; clear hq hf hp))
  go_wp2
  go_end0
  exact ⟨rfl, sv', Q', HY.out⟩
end
end Go.Proofs.YtbkclhaonbjobaaGreat.Wt

namespace Go.Proofs.YtbkclhaonbjobaaGreat.Wt

/-- the search's labels and queue tell what the document's search knows. -/
structure Rel (n : Nat) (S : FS) (L : Int → Option (Int × Int)) (Q : List Th) : Prop where
  lv : S.vs.length = n
  lab : ∀ (v : Nat) (d : Int), S.vs[v]? = some (some d) → L (v : Int) = some (d, S.hs v)
  non : ∀ (v : Nat), S.vs[v]? = some none → L (v : Int) = none
  inn : ∀ e ∈ Q, ∃ (v : Nat) (d : Int), e.2 = (v : Int) ∧ S.vs[v]? = some (some d) ∧ d ≤ e.1
  opn : ∀ (v : Nat) (k : Int), v < n → S.f (v : Int) = some k → (k, (v : Int)) ∈ Q
  fix : ∀ (v : Nat) (d : Int), S.vs[v]? = some (some d) → S.f (v : Int) = none → (d, (v : Int)) ∉ Q
  nod : Q.Nodup
theorem upd_at (f : Int → Option Int) (x u : Nat) (o : Option Int) : upd f (x : Int) o (u : Int) = if u = x then o else f (u : Int) := by
  unfold upd
  by_cases e : u = x
  · rw [if_pos (by omega), if_pos e]
  · rw [if_neg (by omega), if_neg e]
section
variable {n : Nat} {S : FS} {L : Int → Option (Int × Int)} {Q Q' : List Th}
theorem Rel.lt (h : Rel n S L Q) {v : Nat} {o : Option Int} (hv : S.vs[v]? = some o) : v < n := by rw [← h.lv]; exact (List.getElem?_eq_some_iff.1 hv).1
theorem Rel.perm (h : Rel n S L Q) (hp : Q.Perm Q') : Rel n S L Q' := ⟨h.lv, h.lab, h.non, fun e he => h.inn e (hp.mem_iff.2 he), fun v k hv hf => hp.mem_iff.1 (h.opn v k hv hf), fun v d hv hf hm => h.fix v d hv hf (hp.mem_iff.2 hm), hp.nodup_iff.1 h.nod⟩
/-- nobody is open where the queue is empty. -/
theorem Rel.none (h : Rel n S L []) : ∀ d : Nat, d < n → S.f (d : Int) = .none := fun d hd => by
  cases hf : S.f (d : Int) with
  | none => rfl
  | some k => exact absurd (h.opn d k hd hf) (by simp)
/-- what comes out of the queue: its label. -/
theorem Rel.head (h : Rel n S L Q) {t : Th} (hp : Q.Perm (t :: Q')) : ∃ (v : Nat) (d : Int), t.2 = (v : Int) ∧ v < n ∧ S.vs[v]? = some (some d) ∧ d ≤ t.1 ∧ L (v : Int) = some (d, S.hs v) := by
  obtain ⟨v, d, h1, h2, h3⟩ := h.inn t (hp.mem_iff.2 (by simp))
  exact ⟨v, d, h1, h.lt h2, h2, h3, h.lab v d h2⟩
/-- an entry that counts no more. -/
theorem Rel.stale (h : Rel n S L Q) (ho : ∀ (v : Nat) (k : Int), v < n → S.f (v : Int) = some k → S.vs[v]? = some (some k)) {t : Th} (hp : Q.Perm (t :: Q')) {v : Nat} {d : Int} (ht : t.2 = (v : Int)) (hv : S.vs[v]? = some (some d)) (hd : t.1 ≠ d) : Rel n S L Q' := by
  have hn := hp.nodup_iff.1 h.nod
  refine ⟨h.lv, h.lab, h.non, fun e he => h.inn e (hp.mem_iff.2 (List.mem_cons_of_mem _ he)), fun u k hu hf => ?_, fun u e hu hf hm => h.fix u e hu hf (hp.mem_iff.2 (List.mem_cons_of_mem _ hm)), (List.nodup_cons.1 hn).2⟩
  rcases List.mem_cons.1 (hp.mem_iff.1 (h.opn u k hu hf)) with e | e
  · have e1 : t.1 = k := by rw [← e]
    have e2 : t.2 = (u : Int) := by rw [← e]
    have e3 : u = v := by omega
    subst e3
    have := ho u k hu hf
    rw [hv] at this
    cases this
    exact absurd e1 hd
  · exact e
/-- an entry that counts is the least one; behind it its node is settled. -/
theorem Rel.take (h : Rel n S L Q) (ho : ∀ (v : Nat) (k : Int), v < n → S.f (v : Int) = some k → S.vs[v]? = some (some k)) {t : Th} (hp : Q.Perm (t :: Q')) (hm : ∀ x ∈ Q, ¬ ltT x t) {v : Nat} (ht : t.2 = (v : Int)) (hv : S.vs[v]? = some (some t.1)) : Least n S.f v t.1 ∧ Rel n (S.pop v) L Q' := by
  have hn := hp.nodup_iff.1 h.nod
  have hvn := h.lt hv
  have htm : (t.1, (v : Int)) ∈ Q := by
    have : (t.1, (v : Int)) = t := by rw [← ht]
    rw [this]
    exact hp.mem_iff.2 (by simp)
  have hf : S.f (v : Int) = some t.1 := by
    cases hf : S.f (v : Int) with
    | none => exact absurd htm (h.fix v t.1 hv hf)
    | some k =>
      have := ho v k hvn hf
      rw [hv] at this
      cases this
      rfl
  refine ⟨⟨hvn, hf, fun e j he hj => ?_⟩, h.lv, h.lab, h.non, fun e he => h.inn e (hp.mem_iff.2 (List.mem_cons_of_mem _ he)), fun u k hu hg => ?_, fun u e hu hg hmm => ?_, (List.nodup_cons.1 hn).2⟩
  · have h1 := hm _ (h.opn e j he hj)
    have e2 : t = (t.1, (v : Int)) := by rw [← ht]
    rw [e2] at h1
    exact h1
  · have hg' : upd S.f (v : Int) .none (u : Int) = some k := hg
    rw [upd_at] at hg'
    split at hg'
    · cases hg'
    · rename_i hne
      rcases List.mem_cons.1 (hp.mem_iff.1 (h.opn u k hu hg')) with e | e
      · have e2 : t.2 = (u : Int) := by rw [← e]
        omega
      · exact e
  · have hg' : upd S.f (v : Int) .none (u : Int) = .none := hg
    rw [upd_at] at hg'
    split at hg'
    · rename_i e2
      subst e2
      have hu' : S.vs[u]? = some (some e) := hu
      rw [hv] at hu'
      cases hu'
      have : (t.1, (u : Int)) = t := by rw [← ht]
      rw [this] at hmm
      exact (List.nodup_cons.1 hn).1 hmm
    · exact h.fix u e hu hg' (hp.mem_iff.2 (List.mem_cons_of_mem _ hmm))
/-- a label is laid. -/
theorem Rel.laid (h : Rel n S L Q) {x : Nat} (hx : x < n) {d hp v : Int} (hb : S.better x d = true) (hq : Q'.Perm ((d, (x : Int)) :: Q)) : Rel n (S.lab x d hp v) (updL L (x : Int) (d, hp)) Q' := by
  have hxl : x < S.vs.length := by rw [h.lv]; exact hx
  have hvs : ∀ u, (S.vs.set x (some d))[u]? = if u = x then some (some d) else S.vs[u]? := fun u => by
    rw [List.getElem?_set]
    by_cases e : x = u
    · rw [if_pos e, if_pos e.symm, if_pos (by omega)]
    · rw [if_neg e, if_neg (fun e2 => e e2.symm)]
  have hless : ∀ d0, S.vs[x]? = some (some d0) → d < d0 := fun d0 h0 => by
    unfold FS.better at hb
    rw [h0] at hb
    simpa using hb
  have hnew : (d, (x : Int)) ∉ Q := fun hm => by
    obtain ⟨v2, d2, e1, e2, e3⟩ := h.inn _ hm
    have e4 : v2 = x := by simp at e1; omega
    subst e4
    have := hless d2 e2
    simp at e3
    omega
  refine Rel.perm ?_ hq.symm
  refine ⟨by show (S.vs.set x (some d)).length = n; rw [List.length_set]; exact h.lv, fun u e hu => ?_, fun u hu => ?_, fun e he => ?_, fun u k hu hf => ?_, fun u e hu hf hm => ?_, List.nodup_cons.2 ⟨hnew, h.nod⟩⟩
  · have hu' : (S.vs.set x (some d))[u]? = some (some e) := hu
    rw [hvs] at hu'
    show updL L (x : Int) (d, hp) (u : Int) = some (e, if u = x then hp else S.hs u)
    unfold updL
    split at hu'
    · rename_i e2
      rw [if_pos (by omega), if_pos e2]
      cases hu'
      rfl
    · rename_i e2
      rw [if_neg (by omega), if_neg e2]
      exact h.lab u e hu'
  · have hu' : (S.vs.set x (some d))[u]? = some .none := hu
    rw [hvs] at hu'
    show updL L (x : Int) (d, hp) (u : Int) = .none
    unfold updL
    split at hu'
    · cases hu'
    · rename_i e2
      rw [if_neg (by omega)]
      exact h.non u hu'
  · rcases List.mem_cons.1 he with rfl | he
    · exact ⟨x, d, rfl, by show (S.vs.set x (some d))[x]? = _; rw [hvs, if_pos rfl], Int.le_refl _⟩
    · obtain ⟨v2, d2, e1, e2, e3⟩ := h.inn e he
      by_cases e4 : v2 = x
      · subst e4
        have := hless d2 e2
        exact ⟨v2, d, e1, by show (S.vs.set v2 (some d))[v2]? = _; rw [hvs, if_pos rfl], by omega⟩
      · exact ⟨v2, d2, e1, by show (S.vs.set x (some d))[v2]? = _; rw [hvs, if_neg e4]; exact e2, e3⟩
  · have hf' : upd S.f (x : Int) (some d) (u : Int) = some k := hf
    rw [upd_at] at hf'
    split at hf'
    · rename_i e
      subst e
      cases hf'
      exact List.mem_cons_self
    · exact List.mem_cons_of_mem _ (h.opn u k hu hf')
  · have hf' : upd S.f (x : Int) (some d) (u : Int) = .none := hf
    rw [upd_at] at hf'
    split at hf'
    · cases hf'
    · rename_i e2
      have hu' : (S.vs.set x (some d))[u]? = some (some e) := hu
      rw [hvs, if_neg e2] at hu'
      rcases List.mem_cons.1 hm with e3 | e3
      · have : (u : Int) = (x : Int) := by rw [Prod.mk.injEq] at e3; exact e3.2
        omega
      · exact h.fix u e hu' hf' e3
/-- the program asks the same. -/
theorem Rel.asks (h : Rel n S L Q) {x : Nat} (hx : x < n) (d : Int) : S.better x d = (!(L (x : Int)).isSome || decide (d < ((L (x : Int)).getD (0, 0)).1)) := by
  obtain ⟨o, ho⟩ : ∃ o, S.vs[x]? = some o := ⟨S.vs[x]'(by rw [h.lv]; exact hx), List.getElem?_eq_getElem _⟩
  unfold FS.better
  rw [ho]
  cases o with
  | none => rw [h.non x ho]; rfl
  | some e => rw [h.lab x e ho]; rfl
/-- the beginning. -/
theorem Rel.begin (n : Nat) (S0 : FS) {s : Nat} (hs : s < n) : Rel n (S0.begin n s) (updL (fun _ => .none) (s : Int) (0, 0)) [(0, (s : Int))] := by
  have h0 : Rel n (⟨List.replicate n .none, S0.hs, S0.ah, fun _ => .none⟩ : FS) (fun _ => .none) [] :=
    ⟨by simp, (fun v d hv => by simp [List.getElem?_replicate] at hv), (fun _ _ => rfl), (fun e he => by cases he), (fun v k _ hf => by cases hf), (fun v d _ _ hm => by cases hm), List.nodup_nil⟩
  exact h0.laid hs (by
    unfold FS.better
    simp [hs]) (List.Perm.refl _)
end
/-- what is settled stays, with its label. -/
theorem relax1_keep {v : Nat} {k h : Int} {S : FS} {a : Int × Int × Int} {u : Nat} {d : Int} (hlow : d ≤ k) (hr : 0 ≤ a.2.2) (h1 : S.vs[u]? = some (some d)) (h2 : S.f (u : Int) = none) : (relax1 v k h S a).vs[u]? = some (some d) ∧ (relax1 v k h S a).f (u : Int) = none := by
  unfold relax1
  split
  · rename_i hb
    obtain ⟨x, hx⟩ : ∃ x, a.2.1.toNat = x := ⟨_, rfl⟩
    rw [hx] at hb ⊢
    have hne : u ≠ x := fun e => by
      subst e
      unfold FS.better at hb
      rw [h1] at hb
      simp at hb
      omega
    refine ⟨by show (S.vs.set x _)[u]? = _; rw [List.getElem?_set, if_neg (Ne.symm hne)]; exact h1, by show upd S.f (x : Int) _ (u : Int) = none; rw [upd_at, if_neg hne]; exact h2⟩
  · exact ⟨h1, h2⟩
theorem fold_keep {v : Nat} {k h : Int} {u : Nat} {d : Int} (hlow : d ≤ k) : ∀ (l : List (Int × Int × Int)) (S : FS), (∀ a ∈ l, 0 ≤ a.2.2) → S.vs[u]? = some (some d) → S.f (u : Int) = none → (l.foldl (relax1 v k h) S).vs[u]? = some (some d) ∧ (l.foldl (relax1 v k h) S).f (u : Int) = none
  | [], S, _, h1, h2 => ⟨h1, h2⟩
  | a :: l, S, hl, h1, h2 => by
    obtain ⟨g1, g2⟩ := relax1_keep (v := v) (h := h) hlow (hl a (by simp)) h1 h2
    exact fold_keep hlow l _ (fun b hb => hl b (by simp [hb])) g1 g2
theorem step_keep {n : Nat} {zs : List (Int × Int × Int)} {hb : Int} {s t : Nat} {S : FS} (hz : Fine n zs) (hI : SInv n zs hb s t S) {v : Nat} {k : Int} (hL : Least n S.f v k) {u : Nat} {d : Int} (h1 : S.vs[u]? = some (some d)) (h2 : S.f (u : Int) = none) : (S.step zs hb v k).vs[u]? = some (some d) ∧ (S.step zs hb v k).f (u : Int) = none := by
  have hlow : d ≤ k := hI.mono u d v k h1 h2 hL.1 hL.2.1
  have p2 : (S.pop v).f (u : Int) = none := by
    show upd S.f (v : Int) none (u : Int) = none
    rw [upd_at]
    split
    · rfl
    · exact h2
  unfold FS.step
  split
  · exact fold_keep hlow _ _ (fun a ha => by have := hz.ends a ((hz.arcRow_mem v a).1 ha).1; omega) h1 p2
  · exact ⟨h1, p2⟩
theorem steps_keep {n : Nat} {zs : List (Int × Int × Int)} {hb mo : Int} {s : Nat} {S0 : FS} (hz : Fine n zs) (h0 : SInv n zs hb s 0 S0) : ∀ (m t : Nat) (S1 S : FS), Steps n zs hb mo S0 t S1 → Steps n zs hb mo S0 (t + m) S → ∀ (u : Nat) (d : Int), S1.vs[u]? = some (some d) → S1.f (u : Int) = none → S.vs[u]? = some (some d) ∧ S.f (u : Int) = none
  | 0, t, S1, S, h1, h2, u, d, g1, g2 => by
    obtain rfl := steps_det t S1 S h1 h2
    exact ⟨g1, g2⟩
  | m + 1, t, S1, S, h1, h2, u, d, g1, g2 => by
    have h2' : Steps n zs hb mo S0 (t + m + 1) S := h2
    obtain ⟨S2, v, k, q1, q2, _, rfl⟩ := h2'
    obtain ⟨p1, p2⟩ := steps_keep hz h0 m t S1 S2 h1 q1 u d g1 g2
    exact step_keep hz (steps_inv hz h0 _ S2 q1) q2 p1 p2
/-- a search that stopped early, all its goals being settled, and the search that goes on to its end: the goals' labels are the same. -/
theorem early {n : Nat} {zs : List (Int × Int × Int)} {hb se mo : Int} {s : Nat} {S0 : FS} (hz : Fine n zs) (h0 : SInv n zs hb s 0 S0) {t t' : Nat} {S S' : FS} (h : Steps n zs hb mo S0 t S) (hse : t = 0 ∨ (t : Int) ≤ se) (h' : Steps n zs hb mo S0 t' S') (e' : RunEnd n se mo t' S') {u : Nat} {d : Int} (g1 : S.vs[u]? = some (some d)) (g2 : S.f (u : Int) = none) : S'.vs[u]? = some (some d) := by
  rcases Nat.lt_or_ge t' t with hlt | hge
  · exfalso
    obtain ⟨m, rfl⟩ : ∃ m, t = t' + m + 1 := ⟨t - t' - 1, by omega⟩
    obtain ⟨S1, v, k, q1, q2, q3⟩ := steps_prefix m t' S h
    obtain rfl := steps_det t' S' S1 h' q1
    rcases e' with ⟨q, _⟩ | ⟨q, _⟩ | ⟨v2, k2, r1, r2, _⟩
    · rcases hse with hse | hse
      · omega
      · omega
    · have := q v q2.1
      rw [q2.2.1] at this
      cases this
    · obtain ⟨_, rfl⟩ := least_unique q2 r1
      omega
  · obtain ⟨m, rfl⟩ : ∃ m, t' = t + m := ⟨t' - t, by omega⟩
    exact (steps_keep hz h0 m t S S' h h' u d g1 g2).1
end Go.Proofs.YtbkclhaonbjobaaGreat.Wt
