/- the law's own example: four; its distances from 0. A path told from its end is a walk; DocFind at an arc. viaductref08.Path at a path. awake and few of the laws on searches. -/
import Derived.Test.YtbaahjppofbdlaaGreatDoorSqD
import Derived.Test.YtbaahjppofbdlaaGreatDoorSrM
import Derived.Test.YtbaahjppofbdlaaGreatDoorSqJ
import Derived.Test.YtbaahjppofbdlaaGreatDoorSpA
import Derived.Test.YtbaahjppofbdlaaGreatDoorSqS
namespace Go.Proofs.YtbaahjppofbdlaaGreatDoor
open Go.RowKit Go.Extern

attribute [local go_sem] Oper.semAt_some

def Z8 : List (Int × Int × Int) := [(0, 1, 4), (0, 2, 9), (1, 2, 1), (2, 3, 2)]
theorem fine8 : Fine 4 Z8 := ⟨by unfold Z8 RiseA lessA; simp, by unfold Z8; simp, by decide, by decide⟩
theorem dist8 : IsDist 4 Z8 0 [0, 4, 5, 7] := by
  have r0 : ReachN Z8 0 0 0 0 := ⟨rfl, rfl⟩
  have r1 : ReachN Z8 0 1 1 4 := ⟨0, 0, 4, r0, by decide, by decide⟩
  have r2 : ReachN Z8 0 2 2 5 := ⟨1, 4, 1, r1, by decide, by decide⟩
  have r3 : ReachN Z8 0 3 3 7 := ⟨2, 5, 2, r2, by decide, by decide⟩
  have hc : cntD [0, 4, 5, 7] = 4 := by decide
  refine BF.dist fine8 ⟨rfl, rfl, fun v x hv => Or.inr ?_⟩ ?_
  · rw [hc]
    rcases v with _ | _ | _ | _ | v
    · cases hv; exact ⟨by omega, by omega, 0, r0⟩
    · cases hv; exact ⟨by omega, by omega, 1, r1⟩
    · cases hv; exact ⟨by omega, by omega, 2, r2⟩
    · cases hv; exact ⟨by omega, by omega, 3, r3⟩
    · simp at hv
  · intro a ha
    unfold Z8 at ha
    simp at ha
    rcases ha with rfl | rfl | rfl | rfl <;> (intro x y hx hy _; cases hx; cases hy; decide)
theorem arcs8 {W : World} {b : Nat} (h : W.heap[b]? = some (.cells #[.int .i64 0, .int .i64 1, .int .i64 4, .int .i64 0, .int .i64 2, .int .i64 9, .int .i64 1, .int .i64 2, .int .i64 1, .int .i64 2, .int .i64 3, .int .i64 2] 61)) : HasArcs W (.slice (some ⟨b, 0, none⟩) 4 4) Z8 := by
  refine ⟨_, 4, rfl, fun j a hj => ⟨b, 0, rfl, lt_of_get h, ?_⟩⟩
  unfold Z8 at hj
  rcases j with _ | _ | _ | _ | j
  · cases hj; simp [World.cell?, h]
  · cases hj; simp [World.cell?, h]
  · cases hj; simp [World.cell?, h]
  · cases hj; simp [World.cell?, h]
  · simp at hj

set_option maxRecDepth 100000 in
set_option maxHeartbeats 4000000 in
theorem four8_calls (w : World) : Calls Tryz.prog 17 #[] w fun e w' => ∃ fo fc uo tc wo wc, e = .returned (.agg #[.slice fo 5 fc, .slice uo 4 tc, .slice wo 4 wc]) ∧ CsrIn w' 4 Z8 fo uo wo fc tc wc ∧ Below w.heap.size w w' := by
  obtain ⟨W0, hW0⟩ : ∃ W0, (w.alloc (.cells #[.slice none 0 0, .slice none 0 0, .slice none 0 0] 55)).alloc (.cells #[.int .i64 0, .int .i64 1, .int .i64 4, .int .i64 0, .int .i64 2, .int .i64 9, .int .i64 1, .int .i64 2, .int .i64 1, .int .i64 2, .int .i64 3, .int .i64 2] 61) = W0 := ⟨_, rfl⟩
  have HW0 : Hid ((w.alloc (.cells #[.slice none 0 0, .slice none 0 0, .slice none 0 0] 55)).alloc (.cells #[.int .i64 0, .int .i64 1, .int .i64 4, .int .i64 0, .int .i64 2, .int .i64 9, .int .i64 1, .int .i64 2, .int .i64 1, .int .i64 2, .int .i64 3, .int .i64 2] 61) = W0) := hW0
  have hB0 : Below w.heap.size w W0 := by rw [← hW0]; exact ((Below.refl _ w).alloc (Nat.le_refl _) _).alloc (by simp) _
  have k1 : W0.heap[w.heap.size]? = some (.cells #[.slice none 0 0, .slice none 0 0, .slice none 0 0] 55) := by rw [← hW0, Below.heap_alloc _ _ _ (by simp)]; exact heap_new _ _
  have k2 : W0.heap[w.heap.size + 1]? = some (.cells #[.int .i64 0, .int .i64 1, .int .i64 4, .int .i64 0, .int .i64 2, .int .i64 9, .int .i64 1, .int .i64 2, .int .i64 1, .int .i64 2, .int .i64 3, .int .i64 2] 61) := by
    have h := heap_new (w.alloc (.cells #[.slice none 0 0, .slice none 0 0, .slice none 0 0] 55)) (.cells #[.int .i64 0, .int .i64 1, .int .i64 4, .int .i64 0, .int .i64 2, .int .i64 9, .int .i64 1, .int .i64 2, .int .i64 1, .int .i64 2, .int .i64 3, .int .i64 2] 61)
    rw [hW0] at h
    simpa using h
  have HRB : Hid (type_of% (rBuild_calls 4 Z8 (some ⟨w.heap.size + 1, 0, none⟩) 4 W0 (arcs8 k2) fine8)) := rBuild_calls 4 Z8 (some ⟨w.heap.size + 1, 0, none⟩) 4 W0 (arcs8 k2) fine8
  have HB : Hid (Below w.heap.size w W0 ∧ w.heap.size < W0.heap.size) := ⟨hB0, lt_of_get k1⟩
  have HR : Hid (∀ wx, Below W0.heap.size W0 wx → wx.heap[w.heap.size]? = some (.cells #[.slice none 0 0, .slice none 0 0, .slice none 0 0] 55)) := fun wx hx => (hx.block _ (lt_of_get k1)).trans k1
  clear hW0 hB0 k1 k2
  go_enter Tryz.func17, Tryz.ntmps17
  go_wp2_with fail
  rw [HW0.out]
  refine HRB.out.mono ?_
  rintro e w1 ⟨fo, fc, uo, tc, wo, wc, rfl, o1, o2, o3, hb⟩
  have H1 : Hid (type_of% (And.intro o1 (And.intro o2 (And.intro o3 hb)))) := ⟨o1, o2, o3, hb⟩
  obtain ⟨r0, r1, r2⟩ := box3 (HR.out w1 hb)
  have rs := lt_of_get (HR.out w1 hb)
  have z0 : w1.frozen? ⟨w.heap.size, 0, none⟩ = false := by simp [World.frozen?, HR.out w1 hb]
  have z1 : w1.frozen? ⟨w.heap.size, 1, none⟩ = false := by simp [World.frozen?, HR.out w1 hb]
  have z2 : w1.frozen? ⟨w.heap.size, 2, none⟩ = false := by simp [World.frozen?, HR.out w1 hb]
  clear o1 o2 o3 hb
  rw [show Z8.length = 4 from rfl]
  go_wp2
  refine bodyPost_ret (v := .agg #[.slice fo 5 fc, .slice uo 4 tc, .slice wo 4 wc]) (by simp [results, Tryz.results17, go_sem, r0, r1, r2]) rfl ?_
  obtain ⟨o1, o2, o3, hb⟩ := H1.out
  have hfar : ∀ g, W0.heap.size ≤ g → (((w1.setCell ⟨w.heap.size, 0, none⟩ (.slice fo 5 fc)).setCell ⟨w.heap.size, 1, none⟩ (.slice uo 4 tc)).setCell ⟨w.heap.size, 2, none⟩ (.slice wo 4 wc)).heap[g]? = w1.heap[g]? := fun g hg => by
    have hne : g ≠ w.heap.size := by have := HB.out.2; omega
    exact ((heap_setCell_other _ _ _ _ hne).trans (heap_setCell_other _ _ _ _ hne)).trans (heap_setCell_other _ _ _ _ hne)
  refine ⟨fo, fc, uo, tc, wo, wc, rfl, ⟨ints_of_iown (iown_keep o1 fun k hk => hfar k (o1.lt k hk).1), ints_of_iown (iown_keep o2 fun k hk => hfar k (o2.lt k hk).1), ints_of_iown (iown_keep o3 fun k hk => hfar k (o3.lt k hk).1)⟩, ?_⟩
  exact (((HB.out.1.trans (hb.mono HB.out.1.size)).setCell (p := ⟨w.heap.size, 0, none⟩) (by simp) _).setCell (p := ⟨w.heap.size, 1, none⟩) (by simp) _).setCell (p := ⟨w.heap.size, 2, none⟩) (by simp) _
end Go.Proofs.YtbaahjppofbdlaaGreatDoor

namespace Go.Proofs.YtbaahjppofbdlaaGreatDoor
open Go.RowKit Go.Extern

/-- a list is a walk, with these weights. -/
def WalkIs (zs : List (Int × Int × Int)) (xs ws : List Int) : Prop := ws.length + 1 = xs.length ∧ ∀ i r, ws[i]? = some r → ∃ v u, xs[i]? = some v ∧ xs[i + 1]? = some u ∧ (v, u, r) ∈ zs
theorem sum_take {ws : List Int} {k : Nat} {r : Int} (h : ws[k]? = some r) : (ws.take (k + 1)).sum = (ws.take k).sum + r := by
  rw [take_snoc h, List.sum_append]
  simp
theorem sum_le {ws : List Int} (h : ∀ (i : Nat) (r : Int), ws[i]? = some r → 0 ≤ r ∧ r ≤ 2147483647) : ∀ k : Nat, k ≤ ws.length → 0 ≤ (ws.take k).sum ∧ (ws.take k).sum ≤ (k : Int) * 2147483647
  | 0, _ => by simp
  | k + 1, hk => by
    have e : ws[k]? = some ws[k] := List.getElem?_eq_getElem (by omega)
    have ih := sum_le h k (by omega)
    have h1 := h k _ e
    rw [sum_take e]
    omega
theorem nums_cons (x : Nat) (l : List Nat) : (nums (x :: l)).reverse = (nums l).reverse ++ [(x : Int)] := by
  unfold nums
  simp
theorem path_walk {zs : List (Int × Int × Int)} {s : Nat} : ∀ {P : List Nat} {d : Int}, PathTo zs s P d → ∃ ws, WalkIs zs (nums P).reverse ws ∧ ws.sum = d ∧ (nums P).reverse[0]? = some (s : Int)
  | [], d, h => h.elim
  | [x], d, ⟨hx, hd⟩ => by
    subst hx hd
    exact ⟨[], ⟨by simp [nums], by simp⟩, rfl, by simp [nums]⟩
  | x :: y :: r, d, ⟨w, e, hw, hd, h⟩ => by
    obtain ⟨ws, ⟨h1, h2⟩, h3, h4⟩ := path_walk h
    have hl : (nums (y :: r)).reverse.length = r.length + 1 := by simp [nums]
    have hlast : (nums (y :: r)).reverse[r.length]? = some (y : Int) := by
      rw [nums_cons, List.getElem?_append_right (by simp [nums]), List.length_reverse, nums_len]
      simp
    have e1 := nums_cons x (y :: r)
    generalize (nums (y :: r)).reverse = xs at *
    rw [e1]
    refine ⟨ws ++ [w], ⟨by simp; omega, fun i r' hr => ?_⟩, by rw [List.sum_append]; simp; omega, by rw [List.getElem?_append_left (by omega)]; exact h4⟩
    by_cases hi : i < ws.length
    · rw [List.getElem?_append_left hi] at hr
      obtain ⟨v, u, g1, g2, g3⟩ := h2 i r' hr
      exact ⟨v, u, by rw [List.getElem?_append_left (by omega)]; exact g1, by rw [List.getElem?_append_left (by omega)]; exact g2, g3⟩
    · rw [List.getElem?_append_right (by omega)] at hr
      have hi2 : i - ws.length = 0 := by
        rcases Nat.eq_zero_or_pos (i - ws.length) with h | h
        · exact h
        · rw [List.getElem?_eq_none (by simp; omega)] at hr; cases hr
      rw [hi2] at hr
      cases hr
      obtain rfl : i = r.length := by omega
      exact ⟨y, x, by rw [List.getElem?_append_left (by omega)]; exact hlast, by rw [List.getElem?_append_right (by omega), hl]; simp, hw⟩
/-- a path: what the reference asks of it. -/
structure PathIs (n : Nat) (zs : List (Int × Int × Int)) (s t : Nat) (d : Int) (xs ws : List Int) : Prop where
  walk : WalkIs zs xs ws
  sum : ws.sum = d
  first : xs[0]? = some (s : Int)
  last : xs[xs.length - 1]? = some (t : Int)
  nodup : xs.Nodup
  node : ∀ x ∈ xs, 0 ≤ x ∧ x < (n : Int)
  len : xs.length ≤ n + 1
theorem pathIs_of {n : Nat} {zs : List (Int × Int × Int)} {s t : Nat} {P : List Nat} {d : Int} (hz : Fine n zs) (hs : s < n) (h : PathTo zs s P d) (ht : P[0]? = some t) (hn : P.Nodup) (hl : P.length ≤ n + 1) : ∃ ws, PathIs n zs s t d (nums P).reverse ws := by
  obtain ⟨ws, h1, h2, h3⟩ := path_walk h
  have hnode : ∀ x ∈ (nums P).reverse, 0 ≤ x ∧ x < (n : Int) := fun x hx => by
    obtain ⟨i, hi⟩ := List.getElem?_of_mem hx
    rcases i with _ | i
    · rw [h3] at hi; cases hi; omega
    · have hl := (List.getElem?_eq_some_iff.1 hi).1
      have hw := h1.1
      obtain ⟨q, e⟩ : ∃ q, ws[i]? = some q := ⟨ws[i]'(by omega), List.getElem?_eq_getElem _⟩
      obtain ⟨v, u, g1, g2, g3⟩ := h1.2 i _ e
      rw [g2] at hi
      cases hi
      have := hz.ends _ g3
      exact ⟨this.2.2.1, this.2.2.2.1⟩
  have hnd : (nums P).reverse.Nodup := by
    rw [List.nodup_iff_pairwise_ne, List.pairwise_reverse]
    unfold nums
    rw [List.pairwise_map]
    exact (List.nodup_iff_pairwise_ne.1 hn).imp fun hne e => hne (Int.ofNat.inj e).symm
  refine ⟨ws, h1, h2, h3, ?_, hnd, hnode, by rw [List.length_reverse, nums_len]; exact hl⟩
  cases P with
  | nil => simp at ht
  | cons x l =>
    obtain rfl : x = t := by simpa using ht
    rw [nums_cons, List.length_append, List.getElem?_append_right (by simp)]
    simp
theorem docFind_arc (n : Nat) (zs : List (Int × Int × Int)) (fo uo wo : Option Addr) (fc tc wc : Nat) (w : World) (hz : Fine n zs) (h : CsrIn w n zs fo uo wo fc tc wc) (v u r : Int) (ha : (v, u, r) ∈ zs) (hD : ∀ wx, Below w.heap.size w wx → Calls Tryz.prog 85 #[.agg #[.slice fo (n + 1) fc, .slice uo zs.length tc, .slice wo zs.length wc]] wx (DocAns wx (0, []))) :
    Calls Tryz.prog 34 #[.agg #[.slice fo (n + 1) fc, .slice uo zs.length tc, .slice wo zs.length wc], .int .i64 v, .int .i64 u] w (FAns w r (0, [])) := by
  obtain ⟨a1, a2, a3, a4, a5, a6, a7⟩ := hz.ends _ ha
  simp only at a1 a2 a3 a4
  obtain ⟨p, rfl⟩ : ∃ p : Nat, v = (p : Int) := ⟨v.toNat, by omega⟩
  have hmem : ∀ a, a ∈ theRow zs p ↔ a ∈ zs ∧ a.1 = (p : Int) := fun a => hz.arcRow_mem p a
  have hr0 : ((p : Int), u, r) ∈ theRow zs p := (hmem _).2 ⟨ha, rfl⟩
  obtain ⟨k0, hk0⟩ := List.getElem?_of_mem hr0
  have huniq : ∀ (j : Nat) b, (theRow zs p)[j]? = some b → b.2.1 = u → b = ((p : Int), u, r) := fun j b hb hbu => by
    obtain ⟨m1, m2⟩ := (hmem b).1 (List.mem_of_getElem? hb)
    exact rise_same hz.rise m1 ha ⟨m2, hbu⟩
  refine docFind_go fo uo wo n fc zs.length tc zs.length wc w p u (theRow zs p) hz.few (Nat.le_trans (rowOf_len _ _) hz.short) ⟨a3, a4⟩ r (0, []) (Or.inl ?_) (fun wx hx => docRow_good fo uo wo n fc zs.length tc zs.length wc wx p (theRow zs p) hz.few ⟨a1, a2⟩ (fun wy hy => hD wy (btr hx hy)) (fun wy hy => rRow_calls n zs fo uo wo fc tc wc wy hz ((h.keep hx).keep hy) p (by omega)))
  · rcases first_ex (fun k => ∃ a, (theRow zs p)[k]? = some a ∧ a.2.1 = u) (theRow zs p).length with ⟨k, hk, ⟨a, hak, hau⟩, hfirst⟩ | hno
    · obtain rfl := huniq k a hak hau
      exact ⟨k, _, hak, rfl, rfl, fun j b hj hb hbu => hfirst j hj ⟨b, hb, hbu⟩, rfl⟩
    · exact absurd ⟨_, hk0, rfl⟩ (hno k0 (List.getElem?_eq_some_iff.1 hk0).1)
end Go.Proofs.YtbaahjppofbdlaaGreatDoor

namespace Go.Proofs.YtbaahjppofbdlaaGreatDoor
open Go.RowKit Go.Extern

attribute [local go_sem] Oper.semAt_some

theorem Tryz.elemS : Tryz.prog.underlying 27 = some (.slice (Tryz.prog.elem 27)) := by kernel_rfl
theorem Tryz.sizeS (w : World) : (sizeOf (Tryz.prog.elem 27)).run Tryz.prog w = .ok 1 w := by kernel_rfl
theorem isl_to (b n lc i : Nat) (h : n ≤ lc) (hi : i ≤ n) (w : World) : (Instr.slice 27 (.slice (some ⟨b, 0, none⟩) n lc) none (some (.int .i64 (i : Int))) none).run Tryz.prog w = .ok (.slice (some ⟨b, 0, none⟩) i lc) w := by
  rw [run_slice_h (ht := Tryz.elemS) (h0 := by omega) (h2 := by omega), Tryz.sizeS]
  have e2 : (i : Int).toNat = i := by omega
  simp only [Result.andThen_ok, sliced, e2]
  simp [Addr.add]

theorem boxedD {W w3 : World} {o : Obj} (h : Below (W.alloc o).drew.heap.size (W.alloc o).drew w3) : w3.heap[W.heap.size]? = some o := (h.block _ (show W.heap.size < (W.alloc o).heap.size by simp)).trans (heap_new W o)
theorem boxed {W w3 : World} {o : Obj} (h : Below (W.alloc o).heap.size (W.alloc o) w3) : w3.heap[W.heap.size]? = some o := (h.block _ (by simp)).trans (heap_new _ _)

set_option maxRecDepth 100000 in
set_option maxHeartbeats 4000000 in
theorem rPath_yes (n : Nat) (zs : List (Int × Int × Int)) (fo uo wo : Option Addr) (fc tc wc : Nat) (w : World) (hz : Fine n zs) (h : CsrIn w n zs fo uo wo fc tc wc) (g lc q s t : Nat) (d : Int) (xs ws : List Int) (hq : xs.length = q + 1) (hx : HasInts w (.slice (some ⟨g, 0, none⟩) (q + 1) lc) xs) (hlc : q + 1 ≤ lc) (hP : PathIs n zs s t d xs ws) (hD : ∀ wx, Below w.heap.size w wx → Calls Tryz.prog 85 #[.agg #[.slice fo (n + 1) fc, .slice uo zs.length tc, .slice wo zs.length wc]] wx (DocAns wx (0, []))) :
    Calls Tryz.prog 15 #[.agg #[.slice fo (n + 1) fc, .slice uo zs.length tc, .slice wo zs.length wc], .slice (some ⟨g, 0, none⟩) (q + 1) lc, .int .i64 s, .int .i64 t, .int .u64 d] w fun e w' => e = .returned (.bool true) ∧ Below w.heap.size w w' := by
  obtain ⟨W0, hW0⟩ : ∃ W0, w.alloc (.cells #[.slice fo (n + 1) fc, .slice uo zs.length tc, .slice wo zs.length wc] 55) = W0 := ⟨_, rfl⟩
  have HW0 : Hid (w.alloc (.cells #[.slice fo (n + 1) fc, .slice uo zs.length tc, .slice wo zs.length wc] 55) = W0) := hW0
  have hB0 : Below w.heap.size w W0 := by rw [← hW0]; exact (Below.refl _ w).alloc (Nat.le_refl _) _
  have hbx : W0.heap[w.heap.size]? = some (.cells #[.slice fo (n + 1) fc, .slice uo zs.length tc, .slice wo zs.length wc] 55) := by rw [← hW0]; exact heap_new _ _
  have HK : Hid (∀ wx, Below W0.heap.size W0 wx → (wx.cell? ⟨w.heap.size, 0, none⟩ = some (.slice fo (n + 1) fc) ∧ wx.cell? ⟨w.heap.size, 1, none⟩ = some (.slice uo zs.length tc) ∧ wx.cell? ⟨w.heap.size, 2, none⟩ = some (.slice wo zs.length wc)) ∧ w.heap.size < wx.heap.size ∧ Below w.heap.size w wx ∧ ∀ (k : Nat) (x : Int), xs[k]? = some x → wx.cell? ⟨g, k, none⟩ = some (.int .i64 x) ∧ g < wx.heap.size) := fun wx hwx => by
    have hg := (hwx.block _ (lt_of_get hbx)).trans hbx
    have hb := hB0.trans (hwx.mono hB0.size)
    refine ⟨box3 hg, lt_of_get hg, hb, fun k x hk => ?_⟩
    obtain ⟨b, off, e, hbl, c⟩ := (hx.keep hb).at hk
    cases e
    rw [Nat.zero_add] at c
    exact ⟨c, hbl⟩
  have HND : Hid (∀ wx (v : Int), 0 ≤ v ∧ v < (n : Int) → Calls Tryz.prog 33 #[.agg #[.slice fo (n + 1) fc, .slice uo zs.length tc, .slice wo zs.length wc], .int .i64 v] wx fun e w' => e = .returned (.bool true) ∧ Below wx.heap.size wx w') := fun wx v hv => by
    have h := rNode_calls fo uo wo n fc zs.length tc zs.length wc (by have := hz.few; omega) v wx
    rw [decide_eq_true hv] at h
    exact h
  have HDF : Hid (∀ wx (v u r : Int), Below w.heap.size w wx → (v, u, r) ∈ zs → Calls Tryz.prog 34 #[.agg #[.slice fo (n + 1) fc, .slice uo zs.length tc, .slice wo zs.length wc], .int .i64 v, .int .i64 u] wx fun e w' => ∃ po pc, e = .returned (.tuple #[.int .i64 r, .agg #[.int .i64 0, .slice po 0 pc]]) ∧ Below wx.heap.size wx w') := fun wx v u r hwx ha => by
    refine (docFind_arc n zs fo uo wo fc tc wc wx hz (h.keep hwx) v u r ha (fun wy hy => hD wy (btr hwx hy))).mono ?_
    rintro e w' ⟨po, pc, he, _, hb⟩
    exact ⟨po, pc, he, hb⟩
  have HWS : Hid (∀ (j : Nat), j + 1 < q + 1 → ∃ v u r, xs[j]? = some v ∧ xs[j + 1]? = some u ∧ (v, u, r) ∈ zs ∧ (ws.take (j + 1)).sum = (ws.take j).sum + r ∧ 0 ≤ r ∧ r ≤ 2147483647) := fun j hj => by
    have hl := hP.walk.1
    obtain ⟨r, hr⟩ : ∃ r, ws[j]? = some r := ⟨ws[j]'(by omega), List.getElem?_eq_getElem _⟩
    obtain ⟨v, u, g1, g2, g3⟩ := hP.walk.2 j r hr
    have hb := hz.ends _ g3
    exact ⟨v, u, r, g1, g2, g3, sum_take hr, hb.2.2.2.2.2.1, hb.2.2.2.2.2.2⟩
  have HSB : Hid (∀ k : Nat, k ≤ q → 0 ≤ (ws.take k).sum ∧ (ws.take k).sum ≤ (k : Int) * 2147483647) := fun k hk => by
    have hl := hP.walk.1
    refine sum_le (fun i r hr => ?_) k (by omega)
    obtain ⟨v, u, g1, g2, g3⟩ := hP.walk.2 i r hr
    have hb := hz.ends _ g3
    exact ⟨hb.2.2.2.2.2.1, hb.2.2.2.2.2.2⟩
  have HXS : Hid (∀ k : Nat, k < q + 1 → ∃ x, xs[k]? = some x ∧ (0 ≤ x ∧ x < (n : Int)) ∧ ∀ (j : Nat) (y : Int), j < k → xs[j]? = some y → y ≠ x) := fun k hk => by
    obtain ⟨x, hx⟩ : ∃ x, xs[k]? = some x := ⟨xs[k]'(by omega), List.getElem?_eq_getElem _⟩
    refine ⟨x, hx, hP.node x (List.mem_of_getElem? hx), fun j y hj hy e => ?_⟩
    subst e
    have h1 := List.getElem?_eq_some_iff.1 hx
    have h2 := List.getElem?_eq_some_iff.1 hy
    have := (List.pairwise_iff_getElem.1 (List.nodup_iff_pairwise_ne.1 hP.nodup)) j k h2.1 h1.1 hj
    exact this (h2.2.trans h1.2.symm)
  have HTS : Hid ((ws.take q).sum = d) := by
    have hl := hP.walk.1
    show _ = _
    rw [List.take_of_length_le (by omega)]
    exact hP.sum
  have hn := hz.few
  have hqn : q ≤ n := by have := hP.len; omega
  have hf := hP.first
  have hla := hP.last
  rw [hq, Nat.add_sub_cancel] at hla
  obtain ⟨⟨c0, c1, c2⟩, cs, _, hcell⟩ := HK.out W0 (Below.refl _ _)
  obtain ⟨k0, kg⟩ := hcell 0 _ hf
  obtain ⟨k1, _⟩ := hcell q _ hla
  have e1 : IntKind.i64.wrap ((q : Int) + 1 - 1) = (q : Int) := by rw [IntKind.wrap_i64] <;> omega
  have e2 : IntKind.i64.wrap (q : Int) = (q : Int) := by rw [IntKind.wrap_i64] <;> omega
  have e3 : (q : Int) < (q : Int) + 1 := by omega
  have e4 : (0 : Int) ≤ (q : Int) := by omega
  have e5 : (0 : Int) < (q : Int) + 1 := by omega
  have e6 : ¬ (q : Int) + 1 = 0 := by omega
  clear hW0 hB0 hbx h hz hP hD hx hcell hf hla
  go_enter Tryz.func15, Tryz.ntmps15
  go_upto_region 1 with fail
  rw [HW0.out]
  go_wp2_with fail
  clear c0 c1 c2 cs k0 k1 kg
  go_loopw [11, 40] (fun sv iv wr => ∃ k : Nat, k ≤ q + 1 ∧ iv = .int .i64 k ∧ sv = .int .u64 (ws.take (k - 1)).sum ∧ Below W0.heap.size W0 wr) (fun _ iv _ => q + 1 - (intOf iv).toNat)
  case atStart => exact ⟨0, Nat.zero_le _, rfl, by simp, Below.refl _ _⟩
  case round =>
    obtain ⟨k, hk, rfl, rfl, hb⟩ := hrel
    have HB : Hid (Below W0.heap.size W0 wr) := hb
    obtain ⟨⟨c0, c1, c2⟩, cs, hbw, hcell⟩ := HK.out wr hb
    have HBZ : Hid (Below w.heap.size w wr) := hbw
    have HCL : Hid (type_of% hcell) := hcell
    clear hb hbw
    by_cases hlt : k < q + 1
    · obtain ⟨x, hx, hxn, hxd⟩ := HXS.out k hlt
      obtain ⟨k0, kg⟩ := hcell k x hx
      have HXK : Hid (xs[k]? = some x ∧ (0 ≤ x ∧ x < (n : Int)) ∧ ∀ (j : Nat) (y : Int), j < k → xs[j]? = some y → y ≠ x) := ⟨hx, hxn, hxd⟩
      have i1 : (k : Int) < (q : Int) + 1 := by omega
      have i2 : (0 : Int) ≤ (k : Int) := by omega
      clear hcell hx hxn hxd
      go_wp2_with fail
      refine (HND.out wr x HXK.out.2.1).mono ?_
      rintro e w1 ⟨rfl, hb1⟩
      have HB1 : Hid (Below W0.heap.size W0 w1) := HB.out.trans (hb1.mono HB.out.size)
      have hsl := isl_to g (q + 1) lc k hlc (by omega)
      clear hb1 c0 c1 c2 cs k0 kg
      go_wp2_with fail
      go_loopw [53] (fun jv wx => ∃ j : Nat, j ≤ k ∧ jv = .int .i64 j ∧ wx = w1) (fun jv _ => k - (intOf jv).toNat)
      case atStart => exact ⟨0, Nat.zero_le _, rfl, rfl⟩
      case round =>
        obtain ⟨j, hj, rfl, rfl⟩ := hrel
        by_cases hjl : j < k
        · obtain ⟨y, hy, _⟩ := HXS.out j (by omega)
          obtain ⟨q0, qg⟩ := (HK.out wr HB1.out).2.2.2 j y hy
          have hne : (y == x) = false := beq_false_of_ne (HXK.out.2.2 j y hjl hy)
          have j1 : (j : Int) < (k : Int) := by omega
          have j2 : (0 : Int) ≤ (j : Int) := by omega
          clear hy hsl
          go_wp2
          go_roundw
          case rel => exact ⟨j + 1, by omega, by go_num, trivial⟩
          case measure => simp [intOf]; omega
        · obtain rfl : j = k := by omega
          clear hsl hjl
          obtain ⟨⟨c0, c1, c2⟩, cs, hbw, hcell⟩ := HK.out wr HB1.out
          have HBW : Hid (Below w.heap.size w wr) := hbw
          clear hbw
          by_cases hk0 : j = 0
          · have HJ0 : Hid (j = 0) := hk0
            have p4 : ¬ (0 : Int) < (j : Int) := by omega
            clear hcell hk0
            go_wp2
            go_roundw
            case rel => exact ⟨_, _, _, _, _, _, _, _, ⟨j + 1, by omega, by go_num, by rw [HJ0.out], HB1.out⟩, rfl, rfl, rfl, rfl, rfl, rfl, rfl, rfl⟩
            case measure => simp [intOf]; omega
          · obtain ⟨p, HPK⟩ : ∃ p : Nat, Hid (j = p + 1) := ⟨j - 1, by show _ = _; omega⟩
            obtain ⟨v, u, r, g1, g2, g3, g4, g5, g6⟩ := HWS.out p (by have := HPK.out; omega)
            have hxu : u = x := by
              have h := HXK.out.1
              rw [HPK.out, g2] at h
              exact Option.some.inj h
            subst hxu
            have HG3 : Hid ((v, u, r) ∈ zs) := g3
            have HG1 : Hid (xs[p]? = some v) := g1
            have HSM : Hid ((ws.take (j - 1)).sum = (ws.take p).sum ∧ (ws.take j).sum = (ws.take p).sum + r) := by
              rw [HPK.out]
              exact ⟨by rw [Nat.add_sub_cancel], g4⟩
            rw [HSM.out.1]
            obtain ⟨s0, s1⟩ := HSB.out p (by have := HPK.out; omega)
            obtain ⟨q0, qg⟩ := hcell p v g1
            have hw1 : IntKind.i64.wrap ((j : Int) - 1) = (p : Int) := by have := HPK.out; rw [IntKind.wrap_i64] <;> omega
            have p1 : (p : Int) < (q : Int) + 1 := by have := HPK.out; omega
            have p2 : (0 : Int) ≤ (p : Int) := by omega
            have p3 : ¬ (j : Int) = 0 := by omega
            have p4 : (0 : Int) < (j : Int) := by omega
            clear hcell g1 g2 g3 g4
            generalize (ws.take p).sum = S at *
            have n1 : ¬ w.heap.size = wr.heap.size := by omega
            have n2 : ¬ wr.heap.size = w.heap.size := by omega
            have n3 : ¬ g = wr.heap.size := by omega
            have n4 : ¬ wr.heap.size = g := by omega
            have HBD : Hid (Below w.heap.size w wr.drew) := HBW.out.drew
            have HBA : Hid (∀ o, Below w.heap.size w (wr.drew.alloc o)) := fun o => HBW.out.drew.alloc HBW.out.size o
            go_wp2_with fail
            go_region_held3 (fun w' => (w'.cell? ⟨w.heap.size, 0, none⟩ = some (.slice fo (n + 1) fc) ∧ w'.cell? ⟨w.heap.size, 1, none⟩ = some (.slice uo zs.length tc) ∧ w'.cell? ⟨w.heap.size, 2, none⟩ = some (.slice wo zs.length wc)) ∧ w'.cell? ⟨g, p, none⟩ = some (.int .i64 v)) (go_keep) (first
              | (go_at_call 34; refine (HDF.out _ v u r (by first | exact HBD.out | exact HBA.out _) HG3.out).mono ?_; rintro e w3 ⟨po, pc, rfl, hb3⟩; have HB3 : Hid (Below W0.heap.size W0 w3) := (by first | exact (HB1.out.drew).trans (hb3.mono HB1.out.size) | exact (HB1.out.drew.alloc HB1.out.size _).trans (hb3.mono (Nat.le_trans HB1.out.size (by simp)))); obtain ⟨⟨d0, d1, d2⟩, ds, _, hcl3⟩ := HK.out w3 HB3.out; obtain ⟨d3, dg⟩ := hcl3 p v HG1.out; clear hcl3; try (have z9 : w3.heap[wr.heap.size]? = some (.cells #[.int .i64 0, .slice none 0 0] 51) := boxedD hb3; have z0 := (cell_two z9).1; have z1 := (cell_two z9).2.1; have z2 := (cell_two z9).2.2.1; have z3 := (cell_two z9).2.2.2; have zl := lt_of_get z9; clear z9)))
            · obtain ⟨e0, e1, _, _⟩ := cell_two (heap_new w3 (.cells #[.int .i64 0, .slice po 0 pc] 51))
              have es := lt_of_get (heap_new w3 (.cells #[.int .i64 0, .slice po 0 pc] 51))
              have HB4 : Hid (Below W0.heap.size W0 (w3.alloc (.cells #[.int .i64 0, .slice po 0 pc] 51))) := HB3.out.alloc HB3.out.size _
              clear d0 d1 d2 d3 ds dg hb3 c0 c1 c2 cs q0 qg n1 n2 n3 n4
              try clear z0 z1 z2 z3 zl
              generalize w3.alloc (.cells #[.int .i64 0, .slice po 0 pc] 51) = W4 at *
              generalize hBB : w3.heap.size = BB at *
              clear hBB
              go_wp2_with fail
              refine (bad_calls _ _ _ _ _).mono ?_
              rw [show ((0 : Int) != 0 || decide (0 < 0)) = false from rfl]
              rintro e w5 ⟨rfl, hb5⟩
              have HB5 : Hid (Below W0.heap.size W0 w5) := HB4.out.trans (hb5.mono HB4.out.size)
              clear hb5 e0 e1 es
              have sw : IntKind.u64.wrap (S + r) = S + r := by rw [IntKind.wrap_u64] <;> omega
              have sr : IntKind.u64.wrap r = r := by rw [IntKind.wrap_u64] <;> omega
              go_wp2
              go_roundw
              case rel =>
                iterate 48 (apply Exists.intro)
                apply And.intro
                rotate_left
                · rfl
                · exact ⟨j + 1, by omega, by go_num, by rw [Nat.add_sub_cancel, HSM.out.2], HB5.out⟩
              case measure => simp [intOf]; omega
            · have zz := lay2_box (c0 := .int .i64 0) (c1 := .slice po 0 pc) (boxedD hb3)
              unfold lay2 at zz
              obtain ⟨e0, e1, _, _⟩ := cell_two zz
              have es := lt_of_get zz
              clear zz
              have HB4 : Hid (Below W0.heap.size W0 ((w3.setCell ⟨wr.heap.size, 0, none⟩ (.int .i64 0)).setCell ⟨wr.heap.size, 1, none⟩ (.slice po 0 pc))) := (HB3.out.setCell (p := ⟨wr.heap.size, 0, none⟩) HB1.out.size _).setCell (p := ⟨wr.heap.size, 1, none⟩) HB1.out.size _
              clear d0 d1 d2 d3 ds dg hb3 c0 c1 c2 cs q0 qg n1 n2 n3 n4
              try clear z0 z1 z2 z3 zl
              generalize (w3.setCell ⟨wr.heap.size, 0, none⟩ (.int .i64 0)).setCell ⟨wr.heap.size, 1, none⟩ (.slice po 0 pc) = W4 at *
              generalize hBB : wr.heap.size = BB at *
              clear hBB
              go_wp2_with fail
              refine (bad_calls _ _ _ _ _).mono ?_
              rw [show ((0 : Int) != 0 || decide (0 < 0)) = false from rfl]
              rintro e w5 ⟨rfl, hb5⟩
              have HB5 : Hid (Below W0.heap.size W0 w5) := HB4.out.trans (hb5.mono HB4.out.size)
              clear hb5 e0 e1 es
              have sw : IntKind.u64.wrap (S + r) = S + r := by rw [IntKind.wrap_u64] <;> omega
              have sr : IntKind.u64.wrap r = r := by rw [IntKind.wrap_u64] <;> omega
              go_wp2
              go_roundw
              case rel =>
                iterate 48 (apply Exists.intro)
                apply And.intro
                rotate_left
                · rfl
                · exact ⟨j + 1, by omega, by go_num, by rw [Nat.add_sub_cancel, HSM.out.2], HB5.out⟩
              case measure => simp [intOf]; omega
    · obtain rfl : k = q + 1 := by omega
      rw [Nat.add_sub_cancel, HTS.out]
      clear hcell
      go_wp2
      go_ret
      exact ⟨rfl, HBZ.out⟩
end Go.Proofs.YtbaahjppofbdlaaGreatDoor

namespace Go.Proofs.YtbaahjppofbdlaaGreatDoor
open Go.RowKit Go.Extern

attribute [local go_sem] Oper.semAt_some

theorem chk8 : ChkIs (firsts 4 Z8) (tos Z8) (weights Z8) (0, []) := by
  refine Or.inr (Or.inr (Or.inr ⟨4, 4, ⟨by decide, by decide, by decide, by decide, by decide⟩, by omega, by omega, Or.inr ⟨firstAt Z8, ⟨fun v hv => ?_, fun v hv => firstAt_mono _ (by omega), by decide, by decide⟩, Or.inr ⟨fun v i hv h1 h2 => ?_, rfl⟩⟩⟩))
  · have h : ∀ v, v < 5 → (firsts 4 Z8)[v]? = some (firstAt Z8 v : Int) := by decide
    exact h v (by omega)
  · have h : ∀ v, v < 4 → ∀ i, i < 4 → firstAt Z8 v ≤ i → i < firstAt Z8 (v + 1) → arcAt 4 (firstAt Z8) (tos Z8) (weights Z8) v i = 0 := by decide
    have h4 : firstAt Z8 (v + 1) ≤ firstAt Z8 4 := firstAt_mono _ (by omega)
    have h5 : firstAt Z8 4 = 4 := by decide
    exact h v hv i (by omega) h1 h2
theorem docCheck8 (fo uo wo : Option Addr) (fc tc wc : Nat) (w : World) (h : CsrIn w 4 Z8 fo uo wo fc tc wc) : Calls Tryz.prog 85 #[.agg #[.slice fo (4 + 1) fc, .slice uo Z8.length tc, .slice wo Z8.length wc]] w (DocAns w (0, [])) :=
  docCheck_any fo uo wo _ fc _ tc _ wc (firsts 4 Z8) (tos Z8) (weights Z8) (0, []) w h.f h.t h.w (by decide) chk8
theorem of8z_calls (fo uo wo : Option Addr) (fc tc wc : Nat) (w : World) (h : CsrIn w 4 Z8 fo uo wo fc tc wc) :
    Calls Tryz.prog 16 #[.agg #[.slice fo 5 fc, .slice uo 4 tc, .slice wo 4 wc]] w fun e w' => ∃ fo fc uo tc wo wc, e = .returned (.agg #[.slice fo 5 fc, .slice uo 4 tc, .slice wo 4 wc]) ∧ CsrIn w' 4 Z8 fo uo wo fc tc wc ∧ Below w.heap.size w w' := by
  refine (of8_calls fo uo wo fc tc wc (firsts 4 Z8) (tos Z8) (weights Z8) w h.f h.t h.w (by decide) (by decide) (by decide)).mono ?_
  rintro e w' ⟨fo', fc', uo', tc', wo', wc', he, ⟨o1, o2, o3⟩, hb⟩
  exact ⟨fo', fc', uo', tc', wo', wc', he, ⟨ints_of_iown o1, ints_of_iown o2, ints_of_iown o3⟩, hb⟩
theorem own_some {w : World} {B n : Nat} {v : Value} {xs : List Value} (h : w.ownsRow B 3 1 v n xs) (h0 : 0 < n) : ∃ g cap, v = .slice (some ⟨g, 0, none⟩) n cap ∧ n ≤ cap := by
  rcases h.2 with ⟨_, e⟩ | ⟨g, cap, cur, e, _, _, hle, _⟩
  · omega
  · exact ⟨g, cap, e, hle⟩

set_option maxRecDepth 100000 in
set_option maxHeartbeats 4000000 in
theorem awake8_calls (w : World) : Calls Tryz.prog 5 #[] w fun e w' => e = .returned (.bool true) ∧ Below w.heap.size w w' := by
  go_enter Tryz.func5, Tryz.ntmps5
  go_wp2_with fail
  refine (four8_calls w).mono ?_
  rintro e w1 ⟨fo, fc, uo, tc, wo, wc, rfl, hI, hb⟩
  have H1 : Hid (CsrIn w1 4 Z8 fo uo wo fc tc wc ∧ Below w.heap.size w w1) := ⟨hI, hb⟩
  clear hI hb
  go_wp2_with fail
  refine (of8z_calls fo uo wo fc tc wc w1 H1.out.1).mono ?_
  rintro e w2 ⟨fo2, fc2, uo2, tc2, wo2, wc2, rfl, hI, hb⟩
  have H2 : Hid (CsrIn w2 4 Z8 fo2 uo2 wo2 fc2 tc2 wc2 ∧ Below w.heap.size w w2) := ⟨hI, btr H1.out.2 hb⟩
  clear hI hb H1
  go_wp2_with fail
  have HF : Hid (Calls Tryz.prog 9 #[.agg #[.slice fo2 5 fc2, .slice uo2 4 tc2, .slice wo2 4 wc2], .int .i64 0] w2 fun e w' => ∃ db, e = .returned (.tuple #[.slice (some ⟨db, 0, none⟩) 4 4, .nilIface]) ∧ U64s w' db [0, 4, 5, 7] ∧ Below w.heap.size w w') := by
    refine (from_good 4 Z8 fo2 uo2 wo2 fc2 tc2 wc2 w2 fine8 H2.out.1 0 (by omega)).mono ?_
    rintro e w' ⟨db, D, he, hD, hU, hb⟩
    obtain rfl := hD.unique dist8
    exact ⟨db, he, hU, btr H2.out.2 hb⟩
  refine HF.out.mono ?_
  rintro e w3 ⟨db, rfl, hU, hb⟩
  have H3 : Hid (U64s w3 db [0, 4, 5, 7] ∧ Below w.heap.size w w3) := ⟨hU, hb⟩
  clear hU hb HF H2
  go_wp2_with fail
  refine (four8_calls w3).mono ?_
  rintro e w4 ⟨fo4, fc4, uo4, tc4, wo4, wc4, rfl, hI, hb⟩
  have H4 : Hid (CsrIn w4 4 Z8 fo4 uo4 wo4 fc4 tc4 wc4 ∧ Below w3.heap.size w3 w4) := ⟨hI, hb⟩
  clear hI hb
  go_wp2_with fail
  refine (of8z_calls fo4 uo4 wo4 fc4 tc4 wc4 w4 H4.out.1).mono ?_
  rintro e w5 ⟨fo5, fc5, uo5, tc5, wo5, wc5, rfl, hI, hb⟩
  have H5 : Hid (CsrIn w5 4 Z8 fo5 uo5 wo5 fc5 tc5 wc5 ∧ Below w3.heap.size w3 w5) := ⟨hI, btr H4.out.2 hb⟩
  clear hI hb H4
  go_wp2_with fail
  have HP : Hid (Calls Tryz.prog 12 #[.agg #[.slice fo5 5 fc5, .slice uo5 4 tc5, .slice wo5 4 wc5], .int .i64 0, .int .i64 3] w5 fun e w' => ∃ g q pc xs ws, e = .returned (.tuple #[.slice (some ⟨g, 0, none⟩) (q + 1) pc, .nilIface]) ∧ (xs.length = q + 1 ∧ q + 1 ≤ pc ∧ HasInts w' (.slice (some ⟨g, 0, none⟩) (q + 1) pc) xs ∧ PathIs 4 Z8 0 3 7 xs ws) ∧ Below w3.heap.size w3 w') := by
    refine (path_good 4 Z8 fo5 uo5 wo5 fc5 tc5 wc5 w5 fine8 H5.out.1 0 3 (by omega) (by omega)).mono ?_
    rintro e w' ⟨⟨D, hD, h⟩, hb⟩
    obtain rfl := hD.unique dist8
    rcases h with ⟨h, _⟩ | ⟨P, d, po, pc, hd, _, hPT, hP0, ⟨hnd, hpl⟩, he, ho⟩
    · exact absurd h (by decide)
    · obtain rfl : (7 : Int) = d := by simpa using hd
      obtain ⟨ws, hPI⟩ := pathIs_of fine8 (by omega) hPT hP0 hnd hpl
      have hl : 0 < P.length := (List.getElem?_eq_some_iff.1 hP0).1
      obtain ⟨q, hq⟩ : ∃ q, P.length = q + 1 := ⟨P.length - 1, by omega⟩
      obtain ⟨g, cap, e2, hc⟩ := own_some ho hl
      injection e2 with e3 e4 e5
      subst e3
      subst e5
      rw [hq] at he ho hc
      have hxl : (nums P).reverse.length = q + 1 := by rw [List.length_reverse, nums_len, hq]
      have hI := ints_of_iown (l := (nums P).reverse) (by rw [hxl]; exact ho)
      exact ⟨g, q, pc, _, ws, he, ⟨hxl, hc, hI, hPI⟩, btr H5.out.2 hb⟩
  refine HP.out.mono ?_
  rintro e w6 ⟨g, q, pc, xs, ws, rfl, hx, hb⟩
  have H6 : Hid ((xs.length = q + 1 ∧ q + 1 ≤ pc ∧ HasInts w6 (.slice (some ⟨g, 0, none⟩) (q + 1) pc) xs ∧ PathIs 4 Z8 0 3 7 xs ws) ∧ Below w3.heap.size w3 w6) := ⟨hx, hb⟩
  clear hx hb HP H5
  go_wp2_with fail
  have hne : (w6.alloc (.cells #[.int .u64 0, .int .u64 4, .int .u64 5, .int .u64 7] 43)).heap[w6.heap.size]? = some (.cells #[.int .u64 0, .int .u64 4, .int .u64 5, .int .u64 7] 43) := heap_new _ _
  have hal : Below w6.heap.size w6 (w6.alloc (.cells #[.int .u64 0, .int .u64 4, .int .u64 5, .int .u64 7] 43)) := (Below.refl _ _).alloc (Nat.le_refl _) _
  have HSR : Hid (Calls Tryz.prog 18 #[.slice (some ⟨db, 0, none⟩) 4 4, .slice (some ⟨w6.heap.size, 0, none⟩) 4 4] (w6.alloc (.cells #[.int .u64 0, .int .u64 4, .int .u64 5, .int .u64 7] 43)) fun e w' => e = .returned (.bool true) ∧ Below w6.heap.size w6 w') := by
    refine (sameRow_yes (some ⟨db, 0, none⟩) (some ⟨w6.heap.size, 0, none⟩) 4 4 [0, 4, 5, 7] _ ?_ ?_ (by decide)).mono fun e w' ⟨he, hb⟩ => ⟨he, btr hal hb⟩
    · exact URow.keep (URow.keep (Or.inr ⟨db, rfl, H3.out.1⟩) H6.out.2) hal
    · exact Or.inr ⟨w6.heap.size, rfl, hne⟩
  clear hne hal
  refine HSR.out.mono ?_
  rintro e w7 ⟨rfl, hb⟩
  have H7 : Hid (Below w6.heap.size w6 w7) := hb
  clear hb HSR
  go_wp2_with fail
  refine (four8_calls w7).mono ?_
  rintro e w8 ⟨fo8, fc8, uo8, tc8, wo8, wc8, rfl, hI, hb⟩
  have H8 : Hid (CsrIn w8 4 Z8 fo8 uo8 wo8 fc8 tc8 wc8 ∧ Below w6.heap.size w6 w8) := ⟨hI, btr H7.out hb⟩
  clear hI hb H7
  go_wp2_with fail
  have HRP : Hid (Calls Tryz.prog 15 #[.agg #[.slice fo8 5 fc8, .slice uo8 4 tc8, .slice wo8 4 wc8], .slice (some ⟨g, 0, none⟩) (q + 1) pc, .int .i64 0, .int .i64 3, .int .u64 7] w8 fun e w' => e = .returned (.bool true) ∧ Below w.heap.size w w') :=
    (rPath_yes 4 Z8 fo8 uo8 wo8 fc8 tc8 wc8 w8 fine8 H8.out.1 g pc q 0 3 7 xs ws H6.out.1.1 (H6.out.1.2.2.1.keep H8.out.2) H6.out.1.2.1 H6.out.1.2.2.2 (fun wx hx => docCheck8 fo8 uo8 wo8 fc8 tc8 wc8 wx (H8.out.1.keep hx))).mono fun e w' ⟨he, hb⟩ => ⟨he, btr (btr (btr H3.out.2 H6.out.2) H8.out.2) hb⟩
  refine HRP.out.mono ?_
  rintro e w9 ⟨rfl, hb⟩
  have H9 : Hid (Below w.heap.size w w9) := hb
  clear hb HRP
  go_wp2
  go_ret
  exact ⟨rfl, H9.out⟩

end Go.Proofs.YtbaahjppofbdlaaGreatDoor
