/- The search's nearest, walked. -/
import Derived.Test.YtbkclhaonbjobaaGreatQiX
import Derived.Deep.DeepCutAuto
namespace Go.Proofs.YtbkclhaonbjobaaGreat.Wt
open Go Go.RowKit Go.Extern

attribute [local go_sem] Oper.semAt_some

/-- how long the queue is, as it lies in memory. -/
def qLen (w : World) (sb : Nat) : Nat := match w.cell? ⟨sb, 5, none⟩ with | some (.slice _ n _) => n | _ => 0
section
variable {w : World} {sb mb nm n : Nat} {c0 c1 c2 c3 sv : Value} {L : Int → Option (Int × Int)} {Q : List Th} {S : FS}
theorem WS.len {w : World} {sb mb nm : Nat} {c0 c1 c2 c3 sv : Value} {L : Int → Option (Int × Int)} {Q : List Th} (h : WS w sb mb nm c0 c1 c2 c3 sv L Q) : qLen w sb = Q.length ∧ ∃ so c, sv = .slice so Q.length c := by
  obtain ⟨so, c, rfl, _, _⟩ := h.q.mem.shape
  refine ⟨?_, so, c, rfl⟩
  unfold qLen
  rw [h.cells.2.2.2.2.2.1]
/-- what nearest answers, and leaves. -/
def NearA (n : Nat) (S : FS) (sb mb nm : Nat) (c0 c1 c2 c3 sv : Value) (L : Int → Option (Int × Int)) (Q : List Th) (w : World) (e : Ending) (w' : World) : Prop := ∃ sv' Q', WS w' sb mb nm c0 c1 c2 c3 sv' L Q' ∧ SFr sb mb sv sv' w w' ∧ Q'.length ≤ Q.length ∧ ((e = .returned (.tuple #[.agg #[.int .u64 0, .int .i64 0], .bool false]) ∧ ∀ d : Nat, d < n → S.f (d : Int) = none) ∨ ∃ (v : Nat) (k : Int), e = .returned (.tuple #[.agg #[.int .u64 k, .int .i64 v], .bool true]) ∧ Least n S.f v k ∧ Rel n (S.pop v) L Q')
theorem near_res {W : World} {p : Nat} {k v : Int} {b : Bool} {tmps : Array Value} (h : W.heap[p]? = some (.cells #[.int .u64 k, .int .i64 v] 182)) (t2 : tmps[2]?.getD undef = .pointer (some ⟨p, 0, none⟩)) (t3 : tmps[3]?.getD undef = .bool b) :
    (results Tryz.f103 tmps).run Tryz.prog W = .ok (.tuple #[.agg #[.int .u64 k, .int .i64 v], .bool b]) W := by
  have c0 : W.cell? ⟨p, 0, none⟩ = some (.int .u64 k) := cell_ofW h rfl
  have c1 : W.cell? ⟨p, 1, none⟩ = some (.int .i64 v) := cell_ofW h rfl
  simp [results, Tryz.results103, go_sem, t2, t3, c0, c1]
theorem wf_nat {v : Nat} (h : v ≤ 1152921504606846976) : (Lit.int .i64 (v : Int)).wf = true := by
  have h1 : decide (IntKind.i64.min ≤ (v : Int)) = true := decide_eq_true (by show (-9223372036854775808 : Int) ≤ _; omega)
  have h2 : decide ((v : Int) ≤ IntKind.i64.max) = true := decide_eq_true (by show _ ≤ (9223372036854775807 : Int); omega)
  show (decide (IntKind.i64.min ≤ (v : Int)) && decide ((v : Int) ≤ IntKind.i64.max)) = true
  rw [h1, h2]
  rfl
theorem heap_drewN {W : World} {p : Nat} {o : Obj} (h : W.heap[p]? = some o) (k : Nat) : (W.drewN k).heap[p]? = some o := h
theorem WS.drewN {w : World} {sb mb nm : Nat} {c0 c1 c2 c3 sv : Value} {L : Int → Option (Int × Int)} {Q : List Th} (h : WS w sb mb nm c0 c1 c2 c3 sv L Q) (k : Nat) : WS (w.drewN k) sb mb nm c0 c1 c2 c3 sv L Q := ⟨h.q.keep fun _ _ _ => rfl, h.m.keep rfl⟩
theorem SFr.drewN {w w' : World} {sb mb : Nat} {sv sv' : Value} (h : SFr sb mb sv sv' w w') (k : Nat) : SFr sb mb sv sv' w (w'.drewN k) := ⟨h.os, h.tape, h.output, h.size, h.block, h.own⟩
/-- a box of one's own is written. -/
theorem WS.putBox {w W0 wx : World} {sb mb nm p : Nat} {c0 c1 c2 c3 sv sv' : Value} {L : Int → Option (Int × Int)} {Q : List Th} (h : WS wx sb mb nm c0 c1 c2 c3 sv' L Q) (hf : SFr sb mb sv sv' W0 wx) (hf0 : SFr sb mb sv sv w W0) {c : Array Value} (hb : wx.heap[p]? = some (.cells c 182)) (hpn : sv'.ownBlock ≠ some p) (u v : Value) (hc : c.size = 2 := by rfl) (hp : w.heap.size ≤ p := by exact Nat.le_refl _) :
    ((wx.setCell ⟨p, 0, none⟩ u).setCell ⟨p, 1, none⟩ v).heap[p]? = some (.cells #[u, v] 182) ∧ WS ((wx.setCell ⟨p, 0, none⟩ u).setCell ⟨p, 1, none⟩ v) sb mb nm c0 c1 c2 c3 sv' L Q ∧ SFr sb mb sv sv' w ((wx.setCell ⟨p, 0, none⟩ u).setCell ⟨p, 1, none⟩ v) := by
  have hk : ∀ j, j ≠ p → ((wx.setCell ⟨p, 0, none⟩ u).setCell ⟨p, 1, none⟩ v).heap[j]? = wx.heap[j]? := fun j hj => (heap_setCell_other _ _ _ _ hj).trans (heap_setCell_other _ _ _ _ hj)
  have hps : p ≠ sb := fun e => by
    have h1 := h.q.mem.box
    rw [← e, hb] at h1
    cases h1
  have hpm : p ≠ mb := fun e => by
    obtain ⟨es, cl, h1⟩ := h.m.obj
    rw [← e, hb] at h1
    cases h1
  refine ⟨?_, ⟨h.q.keep fun k _ hq => hk k (fun e => by
    subst e
    rcases hq with e2 | e2
    · exact hps e2
    · exact hpn e2), h.m.keep (hk _ (Ne.symm hpm))⟩, ?_⟩
  · rw [heap_setCell_sameW _ (heap_setCell_sameW _ hb)]
    obtain ⟨l⟩ := c
    match l, hc with
    | [a, b], _ => rfl
  · have g := hf0.trans hf
    exact ⟨g.os, g.tape, g.output, by simpa using g.size, fun k hk' h1 h2 h3 => (hk k (by omega)).trans (g.block k hk' h1 h2 h3), g.own⟩
set_option maxRecDepth 100000 in
set_option maxHeartbeats 4000000 in
theorem wnearest_calls (h : WS w sb mb nm c0 c1 c2 c3 sv L Q) (hR : Rel n S L Q) (ho : ∀ (v : Nat) (k : Int), v < n → S.f (v : Int) = some k → S.vs[v]? = some (some k)) (hn : n ≤ 65536) (hl : Q.length ≤ 1048577) :
    Calls Tryz.prog 103 #[.pointer (some ⟨sb, 0, none⟩)] w fun e w' => NearA n S sb mb nm c0 c1 c2 c3 sv L Q w e w' := by
  obtain ⟨W0, hW0⟩ : ∃ W0, w.alloc (.cells #[.int .u64 0, .int .i64 0] 182) = W0 := ⟨_, rfl⟩
  have HW0 : Hid (w.alloc (.cells #[.int .u64 0, .int .i64 0] 182) = W0) := hW0
  have hB0 : Below w.heap.size w W0 := by rw [← hW0]; exact (Below.refl _ w).alloc (Nat.le_refl _) _
  have hbx : W0.heap[w.heap.size]? = some (.cells #[.int .u64 0, .int .i64 0] 182) := by rw [← hW0]; exact heap_new _ _
  have H0 : Hid (WS W0 sb mb nm c0 c1 c2 c3 sv L Q ∧ Rel n S L Q ∧ SFr sb mb sv sv w W0) := ⟨h.up hB0, hR, SFr.of_below hB0⟩
  have HO : Hid (∀ (v : Nat) (k : Int), v < n → S.f (v : Int) = some k → S.vs[v]? = some (some k)) := ho
  have HBX : Hid (∀ sv' wx, SFr sb mb sv sv' W0 wx → wx.heap[w.heap.size]? = some (.cells #[.int .u64 0, .int .i64 0] 182)) := fun sv' wx hx => (hx.block _ (lt_of_get hbx) (fun e => by have := lt_of_get h.q.mem.box; omega) (fun e => by have := h.m.lt; omega) (fun e => by
    obtain ⟨_, _, hc⟩ := own_cells h.q.mem e.symm
    have := lt_of_get hc
    omega)).trans hbx
  have HPN : Hid (∀ sv' wx, SFr sb mb sv sv' W0 wx → sv'.ownBlock ≠ some w.heap.size) := fun sv' wx hx e => by
    have h1 := hx.own _ (lt_of_get hbx) e
    obtain ⟨_, _, hc⟩ := own_cells h.q.mem h1
    have := lt_of_get hc
    omega
  clear h hR ho hW0 hB0 hbx
  go_enter Tryz.func103, Tryz.ntmps103
  go_wp2_with fail
  rw [HW0.out]
  go_loopw [4] (fun _ wr => ∃ sv' Q', WS wr sb mb nm c0 c1 c2 c3 sv' L Q' ∧ Rel n S L Q' ∧ SFr sb mb sv sv' W0 wr ∧ Q'.length ≤ Q.length) (fun _ wr => qLen wr sb)
  case atStart => exact ⟨sv, Q, H0.out.1, H0.out.2.1, SFr.refl _ _ _ _, Nat.le_refl _⟩
  case round =>
    obtain ⟨sv', Q', hS, hR, hF, hL⟩ := hrel
    obtain ⟨hql, so, c, rfl⟩ := hS.len
    have HS : Hid (WS wr sb mb nm c0 c1 c2 c3 (.slice so Q'.length c) L Q' ∧ Rel n S L Q' ∧ SFr sb mb sv (.slice so Q'.length c) W0 wr) := ⟨hS, hR, hF⟩
    obtain ⟨_, _, _, _, k4, k5, _⟩ := hS.cells
    obtain ⟨q, hq⟩ : ∃ q, Q'.length = q := ⟨_, rfl⟩
    have HQ : Hid (qLen wr sb = q ∧ Q'.length = q ∧ q ≤ Q.length) := ⟨by rw [hql]; exact hq, hq, by omega⟩
    rw [hq] at k5
    have HLE : Hid (Calls Tryz.prog 109 #[.slice so q c] wr fun e w' => e = .returned (.int .i64 (q : Int)) ∧ w' = wr) := wlen_calls so q c wr
    clear hS hR hF hL hql hq
    go_wp2_with fail
    refine HLE.out.mono ?_
    rintro e y1 ⟨rfl, rfl⟩
    clear HLE
    rcases Nat.eq_zero_or_pos q with h0 | h0
    · subst h0
      have hb := HBX.out _ y1 HS.out.2.2
      have b0 : y1.cell? ⟨w.heap.size, 0, none⟩ = some (.int .u64 0) := cell_ofW hb rfl
      have b1 : y1.cell? ⟨w.heap.size, 1, none⟩ = some (.int .i64 0) := cell_ofW hb rfl
      have f0 : y1.frozen? ⟨w.heap.size, 0, none⟩ = false := by simp [World.frozen?, hb]
      have f1 : y1.frozen? ⟨w.heap.size, 1, none⟩ = false := by simp [World.frozen?, hb]
      have HF := HS.out.1.putBox HS.out.2.2 H0.out.2.2 hb (HPN.out _ _ HS.out.2.2) (.int .u64 0) (.int .i64 0)
      have HZ : Hid (type_of% HF) := HF
      have HNO : Hid (∀ d : Nat, d < n → S.f (d : Int) = none) := by
        have h1 := HS.out.2.1
        rw [List.length_eq_zero_iff.1 HQ.out.2.1] at h1
        exact h1.none
      clear hb HF
      go_wp2
      refine bodyPost_ret (near_res HZ.out.1 rfl rfl) rfl ?_
      exact ⟨_, Q', HZ.out.2.1, HZ.out.2.2, HQ.out.2.1 ▸ HQ.out.2.2, Or.inl ⟨rfl, HNO.out⟩⟩
    · obtain ⟨m, rfl⟩ : ∃ m, q = m + 1 := ⟨q - 1, by omega⟩
      have j1 : decide ((0 : Int) < ((m + 1 : Nat) : Int)) = true := by simp
      have j2 : decide (((m + 1 : Nat) : Int) > 0) = true := by simp
      have j3 : (0 : Int) < ((m + 1 : Nat) : Int) := by omega
      have HCP : Hid (type_of% (chpop_calls HS.out.1.q (m := m) HQ.out.2.1 (by have := HQ.out; omega))) := chpop_calls HS.out.1.q (m := m) HQ.out.2.1 (by have := HQ.out; omega)
      clear k4 k5
      go_wp2_with fail
      refine HCP.out.mono ?_
      rintro e y2 ⟨⟨t1, t2⟩, rfl, sv2, Q2, hq2, hf2, hp2, hm2⟩
      obtain ⟨v, d, ht, hv, hvs, hle, hLv⟩ := HS.out.2.1.head hp2
      simp only at ht hle
      subst ht
      have hw2 := HS.out.1.queued hq2 hf2
      have hF2 := HS.out.2.2.trans (SFr.of_q hf2)
      obtain ⟨W4, hW4⟩ : ∃ W4, y2.alloc (.cells #[.int .u64 t1, .int .i64 (v : Int)] 182) = W4 := ⟨_, rfl⟩
      have HW4 : Hid (y2.alloc (.cells #[.int .u64 t1, .int .i64 (v : Int)] 182) = W4) := hW4
      have hB4 : Below y2.heap.size y2 W4 := by rw [← hW4]; exact (Below.refl _ _).alloc (Nat.le_refl _) _
      have hbx4 : W4.heap[y2.heap.size]? = some (.cells #[.int .u64 t1, .int .i64 (v : Int)] 182) := by rw [← hW4]; exact heap_new _ _
      have l0 : W4.cell? ⟨y2.heap.size, 0, none⟩ = some (.int .u64 t1) := cell_ofW hbx4 rfl
      have l1 : W4.cell? ⟨y2.heap.size, 1, none⟩ = some (.int .i64 (v : Int)) := cell_ofW hbx4 rfl
      have HS4 : Hid (WS W4 sb mb nm c0 c1 c2 c3 sv2 L Q2 ∧ SFr sb mb sv sv2 W0 W4) := ⟨hw2.up hB4, hF2.trans (SFr.of_below hB4)⟩
      have HP2 : Hid (Q'.Perm ((t1, (v : Int)) :: Q2) ∧ (∀ x ∈ Q', ¬ ltT x (t1, (v : Int))) ∧ S.vs[v]? = some (some d) ∧ Q'.length = Q2.length + 1) := ⟨hp2, hm2, hvs, by rw [hp2.length_eq]; rfl⟩
      obtain ⟨_, _, _, _, k4, _⟩ := HS4.out.1.cells
      have hLk : ∀ k, (Instr.lookup 173 (.map (some mb)) (.int .i64 (v : Int)) false).run Tryz.prog (W4.drewN k) = .ok (.agg #[.int .u64 d, .int .i64 (S.hs v)]) (W4.drewN k) := fun k => by
        have h1 := (HS4.out.1.m.keep (w' := W4.drewN k) rfl).look (wf_nat (v := v) (by omega))
        rw [hLv] at h1
        exact h1
      have hFd : ∀ wx, (Instr.field 180 (.agg #[.int .u64 d, .int .i64 (S.hs v)]) 0).run Tryz.prog wx = .ok (.int .u64 d) wx := fun _ => by kernel_rfl
      have hTA : ∀ wx, (Instr.typeAssert (.iface 182 (.agg #[.int .u64 t1, .int .i64 (v : Int)])) 20 182 false).run Tryz.prog wx = .ok (.agg #[.int .u64 t1, .int .i64 (v : Int)]) wx := fun _ => by kernel_rfl
      clear hp2 hm2 hvs hw2 hF2 hW4 hB4 hbx4 hq2 hf2 hLv hle HCP
      have hb := HBX.out _ W4 HS4.out.2
      have b0 : W4.cell? ⟨w.heap.size, 0, none⟩ = some (.int .u64 0) := cell_ofW hb rfl
      have b1 : W4.cell? ⟨w.heap.size, 1, none⟩ = some (.int .i64 0) := cell_ofW hb rfl
      have f0 : W4.frozen? ⟨w.heap.size, 0, none⟩ = false := by simp [World.frozen?, hb]
      have f1 : W4.frozen? ⟨w.heap.size, 1, none⟩ = false := by simp [World.frozen?, hb]
      have HF9 := HS4.out.1.putBox HS4.out.2 H0.out.2.2 hb (HPN.out _ _ HS4.out.2) (.int .u64 t1) (.int .i64 (v : Int))
      clear hb
      go_upto_region 3 with fail
      rw [HW4.out]
      by_cases he : t1 = d
      · have j4 : (t1 == d) = true := by rw [he]; exact beq_self_eq_true _
        have HE : Hid (t1 = d) := he
        clear he
        go_wp2_with fail
        go_quiet (fail)
        have HZ : Hid (type_of% HF9) := HF9
        have HLT : Hid (Least n S.f v t1 ∧ Rel n (S.pop v) L Q2) := HS.out.2.1.take HO.out HP2.out.1 HP2.out.2.1 rfl (by rw [HE.out]; exact HP2.out.2.2.1)
        clear HF9 hLk hFd hTA k4
        go_wp2
        refine bodyPost_ret (near_res (heap_drewN HZ.out.1 nq) rfl rfl) rfl ?_
        exact ⟨_, Q2, HZ.out.2.1.drewN nq, HZ.out.2.2.drewN nq, by have := HP2.out.2.2.2; have := HQ.out; omega, Or.inr ⟨v, t1, rfl, HLT.out.1, HLT.out.2⟩⟩
      · have j4 : (t1 == d) = false := beq_eq_false_iff_ne.2 he
        have HE : Hid (t1 ≠ d) := he
        clear he
        go_wp2_with fail
        go_quiet (fail)
        have HST : Hid (Rel n S L Q2) := HS.out.2.1.stale HO.out HP2.out.1 rfl HP2.out.2.2.1 HE.out
        clear HF9 hLk hFd hTA k4
        go_wp2
        go_roundw
        case rel => exact ⟨sv2, Q2, HS4.out.1.drewN nq, HST.out, HS4.out.2.drewN nq, by have := HP2.out.2.2.2; have := HQ.out; omega⟩
        case measure =>
          rw [(HS4.out.1.drewN nq).len.1, HQ.out.1]
          have := HP2.out.2.2.2
          have := HQ.out.2.1
          omega
end
end Go.Proofs.YtbkclhaonbjobaaGreat.Wt
