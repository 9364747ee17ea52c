/- A witness search in memory; its set, walked. -/
import Derived.Test.YtcfpkbmeblfhoaaWtM
import Derived.Deep.RegionHeld3
namespace Go.Proofs.Ytcfpkbmeblfhoaa.Wt
open Go Go.RowKit Go.Extern

attribute [local go_sem] Oper.semAt_some

section
variable {w w' : World} {sb mb nm : Nat} {c0 c1 c2 c3 sv sv' : Value} {L : Int → Option (Int × Int)} {Q : List Th}
/-- a search in memory: its queue, and its map of labels. -/
structure WS (w : World) (sb mb nm : Nat) (c0 c1 c2 c3 sv : Value) (L : Int → Option (Int × Int)) (Q : List Th) : Prop where
  q : IsQ w sb c0 c1 c2 c3 (.map (some mb)) sv Q
  m : LMap w mb nm L
/-- what calls on it leave alone. -/
structure SFr (sb mb : Nat) (sv sv' : Value) (w w' : World) : Prop where
  os : w'.os = w.os
  tape : w'.tape = w.tape
  output : w'.output = w.output
  size : w.heap.size ≤ w'.heap.size
  block : ∀ k, k < w.heap.size → k ≠ sb → k ≠ mb → some k ≠ sv.ownBlock → w'.heap[k]? = w.heap[k]?
  own : ∀ k, k < w.heap.size → sv'.ownBlock = some k → sv.ownBlock = some k
theorem SFr.refl (sb mb : Nat) (sv : Value) (w : World) : SFr sb mb sv sv w w := ⟨rfl, rfl, rfl, Nat.le_refl _, fun _ _ _ _ _ => rfl, fun _ _ h => h⟩
theorem SFr.trans {sv'' : Value} {w'' : World} (h : SFr sb mb sv sv' w w') (k : SFr sb mb sv' sv'' w' w'') : SFr sb mb sv sv'' w w'' :=
  ⟨k.os.trans h.os, k.tape.trans h.tape, k.output.trans h.output, Nat.le_trans h.size k.size,
   fun j hj h1 h2 h3 => (k.block j (Nat.lt_of_lt_of_le hj h.size) h1 h2 (fun e => h3 (h.own j hj e.symm).symm)).trans (h.block j hj h1 h2 h3),
   fun j hj e => h.own j hj (k.own j (Nat.lt_of_lt_of_le hj h.size) e)⟩
theorem SFr.of_below (h : Below w.heap.size w w') : SFr sb mb sv sv w w' := ⟨h.os, h.tape, h.output, h.size, fun k hk _ _ _ => h.block k hk, fun _ _ e => e⟩
theorem SFr.of_q (h : QFr sb sv sv' w w') : SFr sb mb sv sv' w w' := ⟨h.os, h.tape, h.output, h.size, fun k hk h1 _ h3 => h.block k hk h1 h3, h.own⟩
theorem SFr.of_map (h : w.grownBy w' (some mb)) : SFr sb mb sv sv w w' := ⟨h.os, h.tape, h.output, h.size, fun k hk _ h2 _ => h.block k hk (fun e => h2 (Option.some.inj e)), fun _ _ e => e⟩
theorem SFr.drew (h : SFr sb mb sv sv' w w') : SFr sb mb sv sv' w w'.drew := ⟨h.os, h.tape, h.output, h.size, h.block, h.own⟩
theorem SFr.below {n : Nat} (h : SFr sb mb sv sv' w w') (hn : n ≤ w.heap.size) (h1 : n ≤ sb) (h2 : n ≤ mb) (h3 : ∀ k, sv.ownBlock = some k → n ≤ k) : Below n w w' :=
  ⟨h.os, h.tape, h.output, h.size, fun k hk => h.block k (by omega) (by omega) (by omega) (fun e => by have := h3 k e.symm; omega)⟩
theorem IsQ.keep (h : IsQ w sb c0 c1 c2 c3 (.map (some mb)) sv Q) (hk : ∀ k, k < w.heap.size → (k = sb ∨ sv.ownBlock = some k) → w'.heap[k]? = w.heap[k]?) : IsQ w' sb c0 c1 c2 c3 (.map (some mb)) sv Q := ⟨h.mem.keep hk, h.heap⟩
theorem WS.up (h : WS w sb mb nm c0 c1 c2 c3 sv L Q) (hb : Below w.heap.size w w') : WS w' sb mb nm c0 c1 c2 c3 sv L Q := ⟨h.q.keep fun k hk _ => hb.block k hk, h.m.up hb⟩
theorem WS.drew (h : WS w sb mb nm c0 c1 c2 c3 sv L Q) : WS w.drew sb mb nm c0 c1 c2 c3 sv L Q := ⟨h.q.keep fun _ _ _ => rfl, h.m.drew⟩
theorem own_cells {w : World} {sb k : Nat} {c0 c1 c2 c3 c4 sv : Value} {Q : List Th} (h : QMem w sb c0 c1 c2 c3 c4 sv Q) (hk : sv.ownBlock = some k) : ∃ (c : Array Value) (t : TypeId), w.heap[k]? = some (.cells c t) := by
  rcases h.row.2 with ⟨e, _⟩ | ⟨g, cap, cur, e, _, hh, _⟩
  · rw [e] at hk; cases hk
  · rw [e] at hk
    have e2 : g = k := Option.some.inj hk
    subst e2
    exact ⟨_, _, hh⟩
/-- the map's block is none of the queue's. -/
theorem WS.apart (h : WS w sb mb nm c0 c1 c2 c3 sv L Q) : mb ≠ sb ∧ sv.ownBlock ≠ some mb := by
  obtain ⟨es, cl, hm⟩ := h.m.obj
  refine ⟨fun e => ?_, fun e => ?_⟩
  · have := h.q.mem.box
    rw [← e, hm] at this
    cases this
  · obtain ⟨c, t, hc⟩ := own_cells h.q.mem e
    rw [hm] at hc
    cases hc
/-- a label more in the map. -/
theorem WS.stored (h : WS w sb mb nm c0 c1 c2 c3 sv L Q) {L' : Int → Option (Int × Int)} {n' : Nat} (hm : LMap w' mb n' L') (hg : w.grownBy w' (some mb)) : WS w' sb mb n' c0 c1 c2 c3 sv L' Q :=
  ⟨h.q.keep fun k hk hq => hg.block k hk (fun e => by
    have e2 := Option.some.inj e
    subst e2
    rcases hq with e3 | e3
    · exact h.apart.1 e3
    · exact h.apart.2 e3), hm⟩
/-- behind a call on the queue. -/
theorem WS.queued (h : WS w sb mb nm c0 c1 c2 c3 sv L Q) {Q' : List Th} (hq : IsQ w' sb c0 c1 c2 c3 (.map (some mb)) sv' Q') (hf : QFr sb sv sv' w w') : WS w' sb mb nm c0 c1 c2 c3 sv' L Q' :=
  ⟨hq, h.m.keep (hf.block _ h.m.lt h.apart.1 (fun e => h.apart.2 e.symm))⟩
theorem WS.cells (h : WS w sb mb nm c0 c1 c2 c3 sv L Q) : w.cell? ⟨sb, 0, none⟩ = some c0 ∧ w.cell? ⟨sb, 1, none⟩ = some c1 ∧ w.cell? ⟨sb, 2, none⟩ = some c2 ∧ w.cell? ⟨sb, 3, none⟩ = some c3 ∧ w.cell? ⟨sb, 4, none⟩ = some (.map (some mb)) ∧ w.cell? ⟨sb, 5, none⟩ = some sv ∧ w.frozen? ⟨sb, 3, none⟩ = false ∧ w.frozen? ⟨sb, 5, none⟩ = false := h.q.mem.cells

set_option maxRecDepth 100000 in
set_option maxHeartbeats 4000000 in
theorem wset_calls (h : WS w sb mb nm c0 c1 c2 c3 sv L Q) (x : Int) (hx : (Lit.int .i64 x).wf = true) (d y : Int) (hl : Q.length ≤ 1048576) (hn : nm < maxLen) :
    Calls Try.prog 33 #[.pointer (some ⟨sb, 0, none⟩), .int .i64 x, labV (d, y)] w fun e w' => e = .returned (.tuple #[]) ∧ ∃ sv' Q', WS w' sb mb (nm + 1) c0 c1 c2 c3 sv' (updL L x (d, y)) Q' ∧ SFr sb mb sv sv' w w' ∧ Q'.Perm ((d, x) :: Q) := by
  obtain ⟨W0, hW0⟩ : ∃ W0, w.alloc (.cells #[.int .u64 d, .int .i64 y] 85) = W0 := ⟨_, rfl⟩
  have HW0 : Hid (w.alloc (.cells #[.int .u64 d, .int .i64 y] 85) = W0) := hW0
  have hB0 : Below w.heap.size w W0 := by rw [← hW0]; exact (Below.refl _ w).alloc (Nat.le_refl _) _
  have hbx : W0.heap[w.heap.size]? = some (.cells #[.int .u64 d, .int .i64 y] 85) := by rw [← hW0]; exact heap_new _ _
  have HS0 : Hid (WS W0 sb mb nm c0 c1 c2 c3 sv L Q) := h.up hB0
  obtain ⟨w1, hr1, hm1, hg1⟩ := HS0.out.m.drew.put hx hn (d, y)
  have HS1 : Hid (WS w1 sb mb (nm + 1) c0 c1 c2 c3 sv (updL L x (d, y)) Q) := HS0.out.drew.stored hm1 hg1
  have HF1 : Hid (SFr sb mb sv sv w w1) := (SFr.of_below hB0.drew).trans (SFr.of_map hg1)
  have hmb : mb < w.heap.size := h.m.lt
  have hb1 : w1.heap[w.heap.size]? = some (.cells #[.int .u64 d, .int .i64 y] 85) := (hg1.block _ (lt_of_get hbx) (fun e => by have := Option.some.inj e; omega)).trans hbx
  obtain ⟨_, _, _, _, k4, _⟩ := HS0.out.cells
  have l0 : W0.cell? ⟨w.heap.size, 0, none⟩ = some (.int .u64 d) := cell_ofW hbx rfl
  have l1 : W0.cell? ⟨w.heap.size, 1, none⟩ = some (.int .i64 y) := cell_ofW hbx rfl
  have HNE : Hid (w.heap.size ≠ sb ∧ some w.heap.size ≠ sv.ownBlock ∧ w1.heap[w.heap.size]? = some (.cells #[.int .u64 d, .int .i64 y] 85)) := ⟨fun e => by have := lt_of_get h.q.mem.box; omega, fun e => by
    obtain ⟨_, _, hc⟩ := own_cells h.q.mem e.symm
    have := lt_of_get hc
    omega, hb1⟩
  clear h hW0 hB0 hm1 hg1 hmb
  unfold labV at hr1 ⊢
  simp only at hr1 ⊢
  go_enter Try.func33, Try.ntmps33
  go_wp2_with fail
  rw [HW0.out]
  go_region
  clear hr1 k4 l0 l1 hbx
  have q0 : w1.cell? ⟨w.heap.size, 0, none⟩ = some (.int .u64 d) := cell_ofW hb1 rfl
  have HCP : Hid (Calls Try.prog 42 #[.iface 103 (.pointer (some ⟨sb, 5, none⟩)), .iface 87 (.agg #[.int .u64 d, .int .i64 x])] w1.drew fun e w' => e = .returned (.tuple #[]) ∧ ∃ sv' Q', IsQ w' sb c0 c1 c2 c3 (.map (some mb)) sv' Q' ∧ QFr sb sv sv' w1.drew w' ∧ Q'.Perm ((d, x) :: Q)) := chpush_calls HS1.out.drew.q d x hl
  clear hb1
  go_wp2_with fail
  go_region_held3 (fun w' => w'.cell? ⟨w.heap.size, 0, none⟩ = some (.int .u64 d)) (go_keep) (first
    | (go_at_call 42; refine HCP.out.mono ?_; rintro e y1 ⟨rfl, sv', Q', hq, hf, hp⟩; have HY : Hid (WS y1 sb mb (nm + 1) c0 c1 c2 c3 sv' (updL L x (d, y)) Q' ∧ SFr sb mb sv sv' w y1 ∧ Q'.Perm ((d, x) :: Q)) := ⟨HS1.out.drew.queued hq hf, HF1.out.drew.trans (SFr.of_q hf), hp⟩; have q1 : y1.cell? ⟨w.heap.size, 0, none⟩ = some (.int .u64 d) := cell_ofW ((hf.block _ (lt_of_get HNE.out.2.2) HNE.out.1 HNE.out.2.1).trans HNE.out.2.2) rfl; clear hq hf hp))
  go_wp2
  go_end0
  exact ⟨rfl, sv', Q', HY.out⟩
end
end Go.Proofs.Ytcfpkbmeblfhoaa.Wt
