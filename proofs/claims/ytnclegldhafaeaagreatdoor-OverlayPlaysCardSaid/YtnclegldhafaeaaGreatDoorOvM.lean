/- a row's set. -/
import Derived.Test.YtnclegldhafaeaaGreatDoorOvL
import Derived.Deep.RegionHeld3
namespace Go.Proofs.YtnclegldhafaeaaGreatDoor
open Go.RowKit Go.Extern Go.Sort

attribute [local go_sem] Oper.semAt_some

/-- a row with a half put in its place. -/
def setH (l : List H3) (h : H3) : List H3 := if hasH l h.1 then l.set (lowH l h.1) h else insH l (lowH l h.1) h
/-- what a row's method leaves: its own two cells and its halves may change. -/
structure Moved (w w' : World) (rb ro : Nat) (cur : Array Value) (T : TypeId) (v v' : Value) (gn' : Nat) : Prop where
  os : w'.os = w.os
  tape : w'.tape = w.tape
  output : w'.output = w.output
  size : w.heap.size ≤ w'.heap.size
  block : ∀ k, k < w.heap.size → k ≠ rb → v.ownBlock ≠ some k → w'.heap[k]? = w.heap[k]?
  row : w'.heap[rb]? = some (.cells ((cur.setIfInBounds ro v').setIfInBounds (ro + 1) (.int .i64 gn')) T (0, 0))
  own : ∀ k, v'.ownBlock = some k → v.ownBlock = some k ∨ w.heap.size ≤ k
theorem lowH_le (l : List H3) (x : Int) : lowH l x ≤ l.length := List.countP_le_length

theorem hsc_same {w : World} {b o : Nat} {c : Array Value} {t : TypeId} (v : Value) (h : w.heap[b]? = some (.cells c t (0, 0))) : (w.setCell ⟨b, o, none⟩ v).heap[b]? = some (.cells (c.setIfInBounds o v) t (0, 0)) := by
  simp only [World.setCell, Array.getElem?_modify]
  simp [h]
theorem set_self {c : Array Value} {o : Nat} {v : Value} (h : c[o]? = some v) : c.setIfInBounds o v = c := by
  apply Array.ext_getElem?
  intro i
  rw [Array.getElem?_setIfInBounds]
  split
  · subst_vars
    rw [h]
    rw [if_pos (Array.getElem?_eq_some_iff.1 h).1]
  · rfl
theorem own_set {w : World} {B n rb ro : Nat} {v : Value} {xs : List Value} (h : w.ownsRow B 71 3 v n xs) (hne : v.ownBlock ≠ some rb) (x : Value) : (w.setCell ⟨rb, ro, none⟩ x).ownsRow B 71 3 v n xs := by
  obtain ⟨h1, h2⟩ := h
  refine ⟨h1, ?_⟩
  rcases h2 with h2 | ⟨g, cap, cur, rfl, hb, hh, r⟩
  · exact Or.inl h2
  · exact Or.inr ⟨g, cap, cur, rfl, hb, (heap_setCell_other _ _ _ _ (fun e => hne (by rw [show g = rb from e]; rfl))).trans hh, r⟩
theorem moved_of {w W1 w2 : World} {rb ro gn : Nat} {cur : Array Value} {T : TypeId} {v v' : Value} (hb : Below w.heap.size w W1) (hgr : W1.grownBy w2 v.ownBlock) (hrow : w.heap[rb]? = some (.cells cur T (0, 0))) (hgn : cur[ro + 1]? = some (.int .i64 gn)) (hne : v.ownBlock ≠ some rb) (hown : ∀ k, v'.ownBlock = some k → v.ownBlock = some k ∨ W1.heap.size ≤ k) :
    Moved w (w2.setCell ⟨rb, ro, none⟩ v') rb ro cur T v v' gn := by
  have hlt := lt_of_get hrow
  have hs := hb.size
  refine ⟨hgr.os.trans hb.os, hgr.tape.trans hb.tape, hgr.output.trans hb.output, by have := hgr.size; simp; omega, fun k hk h1 h2 => ?_, ?_, fun k hk => (hown k hk).imp id (fun h => by omega)⟩
  · rw [heap_setCell_other _ _ _ _ h1, hgr.block k (by omega) (fun e => h2 e.symm), hb.block k hk]
  · have h2 : w2.heap[rb]? = some (.cells cur T (0, 0)) := by rw [hgr.block rb (by omega) (fun e => hne e.symm), hb.block rb hlt]; exact hrow
    rw [hsc_same _ h2]
    rw [set_self (c := cur.setIfInBounds ro v') (o := ro + 1)]
    rw [Array.getElem?_setIfInBounds, if_neg (by omega)]
    exact hgn

theorem hasH_low {l : List H3} {x : Int} (hr : RiseH l) (h : hasH l x = true) : lowH l x < l.length ∧ ∀ a, l[lowH l x]? = some a → a.1 = x := by
  unfold hasH at h
  obtain ⟨a, ha, hax⟩ := List.any_eq_true.1 h
  obtain ⟨i, hi⟩ := List.getElem?_of_mem ha
  have hx : a.1 = x := by simpa using hax
  have hil := (List.getElem?_eq_some_iff.1 hi).1
  have e : lowH l x = i := countP_at _ l i (by omega) (fun t b ht hb => decide_eq_true (by have := hr.lt hb hi ht; omega)) (fun t b ht hb => decide_eq_false (by
    rcases Nat.lt_or_ge i t with h | h
    · have := hr.lt hi hb h
      omega
    · obtain rfl : t = i := by omega
      rw [hi] at hb
      cases hb
      omega))
  rw [e]
  refine ⟨hil, fun b hb => ?_⟩
  rw [hi] at hb
  cases hb
  exact hx

theorem getElem?_bang (c : Array Value) (i : Nat) (h : i < c.size) : c[i]? = some c[i]! := by
  rw [Array.getElem?_eq_getElem h, getElem!_pos c i h]
theorem flatH_cons (b : H3) (r : List H3) : flatH (b :: r) = .int .i64 b.1 :: .int .u64 b.2.1 :: .int .i64 b.2.2 :: flatH r := by simp [flatH]
theorem flatH_set (l : List H3) (i : Nat) (a : H3) : flatH (l.set i a) = (((flatH l).set (i * 3) (.int .i64 a.1)).set (i * 3 + 1) (.int .u64 a.2.1)).set (i * 3 + 2) (.int .i64 a.2.2) := by
  induction l generalizing i with
  | nil => simp [flatH]
  | cons b r ih =>
    cases i with
    | zero => simp [flatH_cons]
    | succ i =>
      rw [List.set_cons_succ, flatH_cons, flatH_cons, ih i, show (i + 1) * 3 = i * 3 + 1 + 1 + 1 by omega, show i * 3 + 1 + 1 + 1 + 2 = i * 3 + 2 + 1 + 1 + 1 by omega]
      simp only [List.set_cons_succ]

set_option maxHeartbeats 1000000 in
theorem set_calls (B rb ro : Nat) (cur : Array Value) (T : TypeId) (v : Value) (gn : Nat) (l : List H3) (h : H3) (w : World) (hrow : w.heap[rb]? = some (.cells cur T (0, 0))) (hv : cur[ro]? = some v) (hgn : cur[ro + 1]? = some (.int .i64 gn)) (ho : w.ownsRow B 71 3 v l.length (flatH l)) (hne : v.ownBlock ≠ some rb) (hB : B ≤ w.heap.size) (hr : RiseH l) (hl : l.length ≤ 262144) :
    Calls Tryz.prog 40 #[.pointer (some ⟨rb, ro, none⟩), hV h] w fun e w' => e = .returned (.tuple #[]) ∧ ∃ v', w'.ownsRow B 71 3 v' (setH l h).length (flatH (setH l h)) ∧ Moved w w' rb ro cur T v v' gn := by
  have hlt := lt_of_get hrow
  have hc0 : w.cell? ⟨rb, ro, none⟩ = some v := by simpa [World.cell?, hrow] using hv
  obtain ⟨W0, hW0⟩ : ∃ W0, W0 = w.alloc (.cells (hC h).toArray 71) := ⟨_, rfl⟩
  have hb0 : Below w.heap.size w W0 := by rw [hW0]; exact (Below.refl _ w).alloc (Nat.le_refl _) _
  have ho0 := rowH_keep ho hb0
  have hc1 : W0.cell? ⟨rb, ro, none⟩ = some v := (hb0.cell (p := ⟨rb, ro, none⟩) hlt).trans hc0
  have HF : Hid (type_of% (find_calls rb ro v l h.1 W0 hc1 (hs_of_rowH ho0) hr (by omega))) := find_calls rb ro v l h.1 W0 hc1 (hs_of_rowH ho0) hr (by omega)
  have HW : Hid (w.alloc (.cells #[.int .i64 h.1, .int .u64 h.2.1, .int .i64 h.2.2] 71) = W0) := hW0.symm
  have hz0 : W0.heap.size = w.heap.size + 1 := by rw [hW0]; show (w.heap.push _).size = _; simp
  have hq0 : W0.heap[w.heap.size]? = some (.cells (hC h).toArray 71 (0, 0)) := by rw [hW0]; exact heap_new w _
  have HQ : Hid (W0.heap.size = w.heap.size + 1 ∧ W0.heap[w.heap.size]? = some (.cells (hC h).toArray 71 (0, 0))) := ⟨hz0, hq0⟩
  have HB : Hid (Below w.heap.size w W0) := hb0
  have HO : Hid (w.ownsRow B 71 3 v l.length (flatH l) ∧ w.heap[rb]? = some (.cells cur T (0, 0))) := ⟨ho, hrow⟩
  unfold hV
  have HH : Hid (lowH l h.1 ≤ l.length ∧ v.ownBlock ≠ some rb ∧ rb < w.heap.size ∧ cur[ro]? = some v ∧ cur[ro + 1]? = some (.int .i64 gn)) := ⟨lowH_le _ _, hne, hlt, hv, hgn⟩
  have hbz : B ≤ w.heap.size := hB
  have HR : Hid (hasH l h.1 = true → lowH l h.1 < l.length ∧ ∀ a, l[lowH l h.1]? = some a → a.1 = h.1) := hasH_low hr
  clear hW0 hb0 ho0 hr ho hc1 hz0 hq0 hne hlt hv hgn hrow hc0 hB
  cases hth : hasH l h.1 with
  | false =>
    have ES : Hid (setH l h = insH l (lowH l h.1) h) := by show _ = _; simp [setH, hth]
    rw [hth] at HF
    go_enter Tryz.func40, Tryz.ntmps40
    go_wp2_with fail
    rw [HW.out]
    refine HF.out.mono ?_
    rintro e w1 ⟨rfl, hb1⟩
    have HB1 : Hid (Below W0.heap.size W0 w1) := hb1
    have hrb1 : w1.heap[rb]? = some (.cells cur T (0, 0)) := ((HB.out.trans (hb1.mono HB.out.size)).block rb HH.out.2.2.1).trans HO.out.2
    have hhb1 : w1.heap[w.heap.size]? = some (.cells (hC h).toArray 71 (0, 0)) := (hb1.block _ (by have := HQ.out.1; omega)).trans HQ.out.2
    have d0 : w1.cell? ⟨rb, ro, none⟩ = some v := by simpa [World.cell?, hrb1] using HH.out.2.2.2.1
    have d1 : w1.frozen? ⟨rb, ro, none⟩ = false := by simp [World.frozen?, hrb1]
    have g0 : w1.cell? ⟨w.heap.size, 0, none⟩ = some (.int .i64 h.1) := by simp [World.cell?, hhb1, hC]
    have g1 : w1.cell? ⟨w.heap.size, 1, none⟩ = some (.int .u64 h.2.1) := by simp [World.cell?, hhb1, hC]
    have g2 : w1.cell? ⟨w.heap.size, 2, none⟩ = some (.int .i64 h.2.2) := by simp [World.cell?, hhb1, hC]
    have l0 : rb < w1.heap.size := lt_of_get hrb1
    have l1 : w.heap.size < w1.heap.size := lt_of_get hhb1
    have hbW : Below w.heap.size w (w1.drew.alloc (.cells #[.int .i64 h.1, .int .u64 h.2.1, .int .i64 h.2.2] 71)) := (HB.out.trans (hb1.mono HB.out.size)).drew.alloc (by show w.heap.size ≤ w1.heap.size; omega) _
    obtain ⟨W1, hW1⟩ : ∃ W1, w1.drew.alloc (.cells #[.int .i64 h.1, .int .u64 h.2.1, .int .i64 h.2.2] 71) = W1 := ⟨_, rfl⟩
    have hv1 : W1.heap[w1.heap.size]? = some (.cells (hC h).toArray 71 (0, 0)) := by rw [← hW1]; exact heap_new w1.drew _
    have hz1 : W1.heap.size = w1.heap.size + 1 := by rw [← hW1]; show (w1.heap.push _).size = _; simp
    rw [hW1] at hbW
    have hoW := rowH_keep HO.out.1 hbW
    have hin := insert_calls B v l (lowH l h.1) h w1.heap.size W1 hoW (by omega) HH.out.1 hv1 (fun e => by have := (HO.out.1.lt _ e).2; omega) hl
    have HI : Hid (Calls Tryz.prog 61 #[v, .int .i64 (lowH l h.1 : Nat), .slice (some ⟨w1.heap.size, 0, none⟩) 1 1] (w1.drew.alloc (.cells #[.int .i64 h.1, .int .u64 h.2.1, .int .i64 h.2.2] 71)) fun e w' => ∃ v', e = .returned v' ∧ (w'.setCell ⟨rb, ro, none⟩ v').ownsRow B 71 3 v' (insH l (lowH l h.1) h).length (flatH (insH l (lowH l h.1) h)) ∧ Moved w (w'.setCell ⟨rb, ro, none⟩ v') rb ro cur T v v' gn ∧ w'.cell? ⟨rb, ro, none⟩ = some v ∧ w'.frozen? ⟨rb, ro, none⟩ = false ∧ rb < w'.heap.size) := by
      show Calls _ _ _ _ _
      rw [hW1]
      refine hin.mono ?_
      rintro e w2 ⟨v', rfl, o1, gr, fr⟩
      have hne' : v'.ownBlock ≠ some rb := fun e => by
        rcases fr rb e with h | h
        · exact HH.out.2.1 h
        · omega
      have hr2 : w2.heap[rb]? = some (.cells cur T (0, 0)) := by rw [gr.block rb (by omega) (fun e => HH.out.2.1 e.symm), hbW.block rb HH.out.2.2.1]; exact HO.out.2
      exact ⟨v', rfl, by rw [insH_len HH.out.1]; exact own_set o1 hne' _, moved_of hbW gr HO.out.2 HH.out.2.2.2.2 HH.out.2.1 fr, by simpa [World.cell?, hr2] using HH.out.2.2.2.1, by simp [World.frozen?, hr2], lt_of_get hr2⟩
    clear hb1 hrb1 hhb1 hbW hW1 hv1 hz1 hoW hin W1
    go_wp2_with fail
    go_region_law (first | (go_simp; go_at_call 61; refine HI.out.mono ?_; rintro e y1 ⟨v', rfl, y2, y3, y4, y5, y6⟩; obtain ⟨so, sc, hso⟩ := rowH_slice y2; subst hso; have Y1 : Hid (type_of% (And.intro y2 y3)) := ⟨y2, y3⟩; clear y2 y3))
    all_goals
      go_wp2
      exact bodyPost_ret (v := .tuple #[]) (by simp [results, Tryz.results40]) rfl ⟨rfl, _, by rw [ES.out]; exact Y1.out.1, Y1.out.2⟩
  | true =>
    obtain ⟨hlo, hle⟩ := HR.out hth
    have ES : Hid (setH l h = l.set (lowH l h.1) h) := by show _ = _; simp [setH, hth]
    rcases HO.out.1.2 with ⟨_, h0⟩ | ⟨g, c, cu, rfl, hBg, hg, hnc, hcm, hsz, htk⟩
    · omega
    have HG : Hid (B ≤ g ∧ w.heap[g]? = some (.cells cu 71 (0, 0)) ∧ l.length ≤ c ∧ c ≤ maxLen ∧ cu.size = c * 3 ∧ cu.toList.take (l.length * 3) = flatH l) := ⟨hBg, hg, hnc, hcm, hsz, htk⟩
    rw [hth] at HF
    go_enter Tryz.func40, Tryz.ntmps40
    go_wp2_with fail
    rw [HW.out]
    refine HF.out.mono ?_
    rintro e w1 ⟨rfl, hb1⟩
    have hbw : Below w.heap.size w w1 := HB.out.trans (hb1.mono HB.out.size)
    have HB1 : Hid (Below w.heap.size w w1) := hbw
    have hrb1 : w1.heap[rb]? = some (.cells cur T (0, 0)) := (hbw.block rb HH.out.2.2.1).trans HO.out.2
    have hhb1 : w1.heap[w.heap.size]? = some (.cells (hC h).toArray 71 (0, 0)) := (hb1.block _ (by have := HQ.out.1; omega)).trans HQ.out.2
    have hg1 : w1.heap[g]? = some (.cells cu 71 (0, 0)) := (hbw.block g (lt_of_get hg)).trans hg
    have d0 : w1.cell? ⟨rb, ro, none⟩ = some (.slice (some ⟨g, 0, none⟩) l.length c) := by simpa [World.cell?, hrb1] using HH.out.2.2.2.1
    have g0 : w1.cell? ⟨w.heap.size, 0, none⟩ = some (.int .i64 h.1) := by simp [World.cell?, hhb1, hC]
    have g1 : w1.cell? ⟨w.heap.size, 1, none⟩ = some (.int .u64 h.2.1) := by simp [World.cell?, hhb1, hC]
    have g2 : w1.cell? ⟨w.heap.size, 2, none⟩ = some (.int .i64 h.2.2) := by simp [World.cell?, hhb1, hC]
    have l0 : rb < w1.heap.size := lt_of_get hrb1
    have l1 : w.heap.size < w1.heap.size := lt_of_get hhb1
    have l2 : g < w1.heap.size := lt_of_get hg1
    have l3 : g ≠ w.heap.size := by have := lt_of_get hg; omega
    have l4 : g ≠ rb := fun e => HH.out.2.1 (by rw [e]; rfl)
    have HG1 : Hid (w1.heap[g]? = some (.cells cu 71 (0, 0)) ∧ w1.heap[rb]? = some (.cells cur T (0, 0))) := ⟨hg1, hrb1⟩
    obtain ⟨k, hk⟩ : ∃ k, lowH l h.1 = k := ⟨_, rfl⟩
    have k0 : w1.cell? ⟨g, k * 3, none⟩ = some cu[k * 3]! := by simp only [World.cell?, hg1]; exact (getElem?_bang cu _ (by omega))
    have k1 : w1.cell? ⟨g, k * 3 + 1, none⟩ = some cu[k * 3 + 1]! := by simp only [World.cell?, hg1]; exact (getElem?_bang cu _ (by omega))
    have k2 : w1.cell? ⟨g, k * 3 + 2, none⟩ = some cu[k * 3 + 2]! := by simp only [World.cell?, hg1]; exact (getElem?_bang cu _ (by omega))
    have q0 : w1.frozen? ⟨g, k * 3, none⟩ = false := by simp [World.frozen?, hg1]
    have q1 : w1.frozen? ⟨g, k * 3 + 1, none⟩ = false := by simp [World.frozen?, hg1]
    have q2 : w1.frozen? ⟨g, k * 3 + 2, none⟩ = false := by simp [World.frozen?, hg1]
    rw [hk] at hlo ⊢
    have i0 : (k : Int) < (l.length : Int) := by omega
    have i1 : (0 : Int) ≤ (k : Int) := by omega
    generalize cu[k * 3]! = z0 at k0
    generalize cu[k * 3 + 1]! = z1 at k1
    generalize cu[k * 3 + 2]! = z2 at k2
    clear hb1 hrb1 hhb1 hbw hg1 hBg hg hnc hcm hsz htk
    have HFIN : Hid (∀ W, W = (((w1.setCell ⟨g, k * 3, none⟩ (.int .i64 h.1)).setCell ⟨g, k * 3 + 1, none⟩ (.int .u64 h.2.1)).setCell ⟨g, k * 3 + 2, none⟩ (.int .i64 h.2.2)).drew → W.ownsRow B 71 3 (.slice (some ⟨g, 0, none⟩) l.length c) (setH l h).length (flatH (setH l h)) ∧ Moved w W rb ro cur T (.slice (some ⟨g, 0, none⟩) l.length c) (.slice (some ⟨g, 0, none⟩) l.length c) gn) := fun W hW => by
      obtain ⟨z0, z1, z2, z3, z4, z5⟩ := HG.out
      have e1 : (setH l h).length = l.length := by rw [ES.out, List.length_set]
      have hr : W.heap[g]? = some (.cells (((cu.setIfInBounds (k * 3) (.int .i64 h.1)).setIfInBounds (k * 3 + 1) (.int .u64 h.2.1)).setIfInBounds (k * 3 + 2) (.int .i64 h.2.2)) 71 (0, 0)) := by
        rw [hW]
        exact hsc_same _ (hsc_same _ (hsc_same _ HG1.out.1))
      have ho : ∀ j, j ≠ g → W.heap[j]? = w1.heap[j]? := fun j hj => by
        rw [hW]
        show (World.setCell _ _ _).heap[j]? = _
        rw [heap_setCell_other _ _ _ _ hj, heap_setCell_other _ _ _ _ hj, heap_setCell_other _ _ _ _ hj]
      refine ⟨⟨by rw [flatH_len], Or.inr ⟨g, c, _, by rw [e1], z0, hr, by rw [e1]; exact z2, z3, by simp [z4], ?_⟩⟩, ?_⟩
      · rw [e1, ES.out, hk, flatH_set]
        simp only [Array.toList_setIfInBounds, List.take_set, z5]
      · refine ⟨by rw [hW]; exact HB1.out.os, by rw [hW]; exact HB1.out.tape, by rw [hW]; exact HB1.out.output, by rw [hW]; have := HB1.out.size; simpa using this, fun j hj h1 h2 => ?_, ?_, fun j hj => Or.inl hj⟩
        · rw [ho j (fun e => h2 (by rw [e]; rfl)), HB1.out.block j hj]
        · rw [set_self (c := cur) HH.out.2.2.2.1, set_self HH.out.2.2.2.2, ho rb (Ne.symm l4)]
          exact HG1.out.2
    go_wp2_with fail
    go_region_held3 (fun w' => w'.cell? ⟨rb, ro, none⟩ = some (.slice (some ⟨g, 0, none⟩) l.length c) ∧ w'.cell? ⟨w.heap.size, 0, none⟩ = some (.int .i64 h.1) ∧ w'.cell? ⟨w.heap.size, 1, none⟩ = some (.int .u64 h.2.1) ∧ w'.cell? ⟨w.heap.size, 2, none⟩ = some (.int .i64 h.2.2)) (go_keep) (first | fail)
    go_wp2
    obtain ⟨f1, f2⟩ := HFIN.out _ rfl
    exact bodyPost_end (v := .tuple #[]) (by simp [results, Tryz.results40]) rfl ⟨rfl, _, f1, f2⟩
end Go.Proofs.YtnclegldhafaeaaGreatDoor
