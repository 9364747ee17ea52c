/- the law WalkMemory. -/
import Derived.Test.YtfjpnbdleckefaaWkV
import Derived.Laws.CopyOwn
import Derived.Laws.MakeOwn
import Derived.Deep.DeepAppendRoom
namespace Go.Proofs.Ytfjpnbdleckefaa
open Go.RowKit Go.Extern

attribute [local go_sem] Oper.semAt_some

set_option maxRecDepth 100000 in
set_option maxHeartbeats 4000000 in
theorem memory9_far (ao bo : Option Addr) (ac bc : Nat) (xs ys : List Int) (w : World) (hx : xs.length * 8 ≤ 140737488351232) (hy : ys.length * 8 ≤ 140737488351232) (h : 300 < xs.length ∨ 300 < ys.length) :
    Calls Try.prog 5 #[.slice ao xs.length ac, .slice bo ys.length bc] w fun e w' => e = .returned (.bool true) ∧ Below w.heap.size w w' := by
  by_cases h1 : 300 < xs.length
  · have e1 : (300 : Int) < (xs.length : Int) := by omega
    go_enter Try.func5, Try.ntmps5
    go_wp2_with fail
    refine (awake9_calls w).mono ?_
    rintro e w1 ⟨rfl, hb⟩
    have HB : Hid (Below w.heap.size w w1) := hb
    clear hb
    go_wp2
    go_ret
    exact ⟨rfl, HB.out⟩
  · have e1 : ¬ (300 : Int) < (xs.length : Int) := by omega
    have e2 : (300 : Int) < (ys.length : Int) := by omega
    go_enter Try.func5, Try.ntmps5
    go_wp2_with fail
    refine (awake9_calls w).mono ?_
    rintro e w1 ⟨rfl, hb⟩
    have HB : Hid (Below w.heap.size w w1) := hb
    clear hb
    go_wp2
    go_ret
    exact ⟨rfl, HB.out⟩

theorem iv_len1 (l : List Int) : (iv l).length = l.length := by simp [iv]
theorem make_room (n : Nat) (hn : n ≤ 300) : ∃ L : List Value, L.length = n + 2 ∧ ∀ w : World, (Instr.makeSlice 22 (.int .i64 (n : Int)) (.int .i64 ((n : Int) + 2))).run Try.prog w = .ok (.slice (some ⟨w.heap.size, 0, none⟩) n (n + 2)) (w.alloc (.cells L.toArray 3)) := by
  obtain ⟨i0, hi, hz0, hz1, hz2⟩ : ∃ i, Try.prog.info? 3 = some i ∧ i.zero = some (.int .i64 0) ∧ i.size = 1 ∧ i.bytes = 8 := by
    have h := infoJ
    cases hi : Try.prog.info? 3 with
    | none => rw [hi] at h; cases h
    | some i => rw [hi] at h; simp at h; exact ⟨i, rfl, h.1, h.2.1, h.2.2⟩
  refine ⟨(madeCells (Value.int .i64 0).cells (n + 2)).toList, by simp [madeCells], fun w => ?_⟩
  have h := run_makeSlice (P := Try.prog) w 22 3 i0 (.int .i64 0) Try.underlying22 hi hz0 .i64 .i64 (n : Int) ((n : Int) + 2) (by omega) (by omega) (by rw [hz1]; omega) (by rw [hz2]; omega) (by omega)
  rw [h, hz1, Array.toArray_toList]
  have e1 : (n : Int).toNat = n := by omega
  have e2 : ((n : Int) + 2).toNat = n + 2 := by omega
  rw [e1, e2, Nat.mul_one]
theorem own_copied {w : World} {B g : Nat} {L : List Value} {xs : List Int} (h : w.heap[g]? = some (.cells (splice L 0 (iv xs)).toArray 3)) (hl : L.length = xs.length + 2) (hm : xs.length ≤ 300) (hB : B ≤ g) :
    w.ownsRow B 3 1 (.slice (some ⟨g, 0, none⟩) xs.length (xs.length + 2)) xs.length (iv xs) := by
  have hv := iv_len xs
  refine ⟨hv, .inr ⟨g, xs.length + 2, _, rfl, hB, h, by omega, by unfold maxLen; omega, ?_, ?_⟩⟩
  · rw [List.size_toArray, length_splice _ _ _ (by rw [hv]; omega)]
    omega
  · simp [splice, hv]

/-- the two lists with their marks behind. -/
structure MS (w wx : World) (xs ys : List Int) (gx gy : Nat) : Prop where
  below : Below w.heap.size w wx
  x : wx.ownsRow w.heap.size 3 1 (.slice (some ⟨gx, 0, none⟩) (xs.length + 2) (xs.length + 2)) (xs.length + 2) (iv (xs ++ [41, 42]))
  y : wx.ownsRow w.heap.size 3 1 (.slice (some ⟨gy, 0, none⟩) (ys.length + 2) (ys.length + 2)) (ys.length + 2) (iv (ys ++ [43, 44]))
  ne : gx < gy
theorem MS.keep {w wx wy : World} {xs ys : List Int} {gx gy : Nat} (h : MS w wx xs ys gx gy) (hb : Below wx.heap.size wx wy) : MS w wy xs ys gx gy := ⟨btr h.below hb, iown_below h.x hb, iown_below h.y hb, h.ne⟩
theorem marked_ints {w : World} {B g : Nat} {xs m : List Int} (h : w.ownsRow B 3 1 (.slice (some ⟨g, 0, none⟩) (xs.length + 2) (xs.length + 2)) (xs.length + 2) (iv (xs ++ m))) : HasInts w (.slice (some ⟨g, 0, none⟩) xs.length (xs.length + 2)) xs := by
  have h1 := iown_cut h (m := xs.length) (by omega)
  rw [List.take_left] at h1
  exact ints_of_iown h1
theorem cells_pair (w : World) (a b : Value) (T : TypeId) : ∀ j u, [a, b][j]? = some u → (w.alloc (.cells #[a, b] T)).cell? ((⟨w.heap.size, 0, none⟩ : Addr).add j) = some u := by
  intro j u hj
  have h := heap_new w (.cells #[a, b] T)
  generalize w.alloc (.cells #[a, b] T) = W at h
  rcases j with _ | _ | j
  · cases hj; simp [Addr.add, World.cell?, h]
  · cases hj; simp [Addr.add, World.cell?, h]
  · simp at hj

theorem ms_made {w w3 w4 w5 : World} {xs ys : List Int} {gx : Nat} {o : Obj} (hx : w3.ownsRow w.heap.size 3 1 (.slice (some ⟨gx, 0, none⟩) (xs.length + 2) (xs.length + 2)) (xs.length + 2) (iv (xs ++ [41, 42]))) (hb : Below w.heap.size w w3) (hb4 : Below w3.heap.size w3 w4)
    (hy : w5.ownsRow w.heap.size 3 1 (.slice (some ⟨w3.heap.size, 0, none⟩) (ys.length + 2) (ys.length + 2)) (ys.length + 2) (iv (ys ++ [43, 44]))) (hg : (w4.alloc o).grownBy w5 (some w3.heap.size)) : MS w w5 xs ys gx w3.heap.size := by
  have hl := (hx.lt gx rfl).2
  have h1 : Below w.heap.size w (w4.alloc o) := (btr hb hb4).alloc (btr hb hb4).size _
  have h2 := iown_alloc (iown_below hx hb4) o
  refine ⟨below_g h1 hg (fun k e => by cases e; exact hb.size), iown_keep h2 fun k hk => ?_, hy, hl⟩
  have hk' : k = gx := (Option.some.inj hk).symm
  subst hk'
  exact hg.block _ (h2.lt k rfl).2 (fun e => by have := Option.some.inj e; omega)

theorem marked_cells {w : World} {B g : Nat} {xs : List Int} {a b : Int} (h : w.ownsRow B 3 1 (.slice (some ⟨g, 0, none⟩) (xs.length + 2) (xs.length + 2)) (xs.length + 2) (iv (xs ++ [a, b]))) : w.cell? ⟨g, xs.length, none⟩ = some (.int .i64 a) ∧ w.cell? ⟨g, xs.length + 1, none⟩ = some (.int .i64 b) ∧ g < w.heap.size := by
  refine ⟨?_, ?_, (h.lt g rfl).2⟩
  · rw [h.cellAt xs.length (by omega)]
    simp [iv]
  · rw [h.cellAt (xs.length + 1) (by omega)]
    simp [iv]
/-- what is written into, and what stays. -/
structure SW (R : Nat → Prop) (W wx : World) : Prop where
  os : wx.os = W.os
  tape : wx.tape = W.tape
  output : wx.output = W.output
  size : W.heap.size ≤ wx.heap.size
  block : ∀ k, k < W.heap.size → ¬ R k → wx.heap[k]? = W.heap[k]?
  shape : ∀ (k : Nat) (c : Array Value), W.heap[k]? = some (.cells c 3) → ∃ c', wx.heap[k]? = some (.cells c' 3) ∧ c'.size = c.size
theorem SW.refl (R : Nat → Prop) (W : World) : SW R W W := ⟨rfl, rfl, rfl, Nat.le_refl _, fun _ _ _ => rfl, fun _ c h => ⟨c, h, rfl⟩⟩
theorem SW.set {R : Nat → Prop} {W wx : World} (h : SW R W wx) {g : Nat} (hg : R g) (i : Nat) (v : Value) : SW R W (wx.setCell ⟨g, i, none⟩ v) := by
  refine ⟨h.os, h.tape, h.output, by simpa using h.size, fun k hk hn => (heap_setCell_other _ _ _ _ (show k ≠ g from fun e => hn (by rw [e]; exact hg))).trans (h.block k hk hn), fun k c hc => ?_⟩
  obtain ⟨c', h1, h2⟩ := h.shape k c hc
  by_cases e : k = g
  · subst e
    exact ⟨c'.setIfInBounds i v, Go.heap_setCell_same _ _ i _ _ _ h1, by simpa using h2⟩
  · exact ⟨c', (heap_setCell_other _ _ _ _ e).trans h1, h2⟩
/-- a row that may be written into. -/
def WR (R : Nat → Prop) (W : World) (mo : Option Addr) (ml : Nat) : Prop := 0 < ml → ∃ gm c, mo = some ⟨gm, 0, none⟩ ∧ R gm ∧ W.heap[gm]? = some (.cells c 3) ∧ ml ≤ c.size
theorem wr_of {R : Nat → Prop} {W : World} {B n sc : Nat} {so : Option Addr} {xs : List Value} (h : W.ownsRow B 3 1 (.slice so n sc) n xs) (hR : ∀ k, (Value.slice so n sc).ownBlock = some k → R k) : WR R W so n := fun h0 => by
  rcases h.2 with ⟨_, e⟩ | ⟨g, cap, cur, e, _, hh, hle, _, hsz, _⟩
  · omega
  · injection e with e1 e2 e3
    subst e1
    exact ⟨g, cur, rfl, hR g rfl, hh, by omega⟩
theorem WR.at {R : Nat → Prop} {W wx : World} {mo : Option Addr} {ml i : Nat} (h : WR R W mo ml) (hs : SW R W wx) (hi : i < ml) : ∃ gm v, mo = some ⟨gm, 0, none⟩ ∧ R gm ∧ wx.cell? ⟨gm, i, none⟩ = some v ∧ wx.frozen? ⟨gm, i, none⟩ = false ∧ gm < wx.heap.size := by
  obtain ⟨gm, c, e, hR, hh, hl⟩ := h (by omega)
  obtain ⟨c', h1, h2⟩ := hs.shape gm c hh
  have hic : i < c'.size := by omega
  exact ⟨gm, c'[i], e, hR, by simp [World.cell?, h1, hic], by simp [World.frozen?, h1], lt_of_get h1⟩
/-- a list in memory of its own, in a block of [B, C). -/
def AR (B C : Nat) (w : World) (so : Option Addr) (sc : Nat) (l : List Int) : Prop := w.ownsRow B 3 1 (.slice so l.length sc) l.length (iv l) ∧ ∀ k, (Value.slice so l.length sc).ownBlock = some k → k < C
theorem AR.keep {B C : Nat} {w w' : World} {so : Option Addr} {sc : Nat} {l : List Int} (h : AR B C w so sc l) (hb : Below w.heap.size w w') : AR B C w' so sc l := ⟨iown_below h.1 hb, h.2⟩
theorem AR.new {w w' : World} {so : Option Addr} {sc : Nat} {l : List Int} (h : w'.ownsRow w.heap.size 3 1 (.slice so l.length sc) l.length (iv l)) : AR w.heap.size w'.heap.size w' so sc l := ⟨h, fun k hk => (h.lt k hk).2⟩

set_option maxRecDepth 100000 in
set_option maxHeartbeats 4000000 in
theorem memory9_near (ao bo : Option Addr) (ac bc : Nat) (xs ys : List Int) (w : World) (hx : HasInts w (.slice ao xs.length ac) xs) (hy : HasInts w (.slice bo ys.length bc) ys) (h1 : xs.length ≤ 300) (h2 : ys.length ≤ 300) (hc : ys.length ≤ bc) (hwx : ∀ x ∈ xs, (Lit.int .i64 x).wf = true) :
    Calls Try.prog 5 #[.slice ao xs.length ac, .slice bo ys.length bc] w fun e w' => e = .returned (.bool true) ∧ Below w.heap.size w w' := by
  have e1 : ¬ (300 : Int) < (xs.length : Int) := by omega
  have e2 : ¬ (300 : Int) < (ys.length : Int) := by omega
  have a1 : IntKind.i64.wrap ((xs.length : Int) + 2) = (xs.length : Int) + 2 := by rw [IntKind.wrap_i64] <;> omega
  have a2 : IntKind.i64.wrap ((ys.length : Int) + 2) = (ys.length : Int) + 2 := by rw [IntKind.wrap_i64] <;> omega
  obtain ⟨LX, hLX, hmx⟩ := make_room xs.length h1
  obtain ⟨LY, hLY, hmy⟩ := make_room ys.length h2
  obtain ⟨i0, hi, hz0, hz1, hz2⟩ : ∃ i, Try.prog.info? 3 = some i ∧ i.zero = some (.int .i64 0) ∧ i.size = 1 ∧ i.bytes = 8 := by
    have h := infoJ
    cases hi : Try.prog.info? 3 with
    | none => rw [hi] at h; cases h
    | some i => rw [hi] at h; simp at h; exact ⟨i, rfl, h.1, h.2.1, h.2.2⟩
  have hsz : (Try.prog.info? 3).map (·.size) = some 1 := by rw [hi]; simp [hz1]
  have HX : Hid (HasInts w (.slice ao xs.length ac) xs ∧ ∀ x ∈ xs, (Lit.int .i64 x).wf = true) := ⟨hx, hwx⟩
  have HY : Hid (HasInts w (.slice bo ys.length bc) ys ∧ ys.length ≤ bc) := ⟨hy, hc⟩
  have HSRC : Hid (∀ (wx : World) (lo : Option Addr) (lc : Nat) (l : List Int), Below w.heap.size w wx → HasInts w (.slice lo l.length lc) l → 0 < (iv l).length → ∃ ad, lo = some ad ∧ ∀ j v, (iv l)[j]? = some v → wx.cell? (ad.add j) = some v) := fun wx lo lc l hb h h0 => by
    cases l with
    | nil => simp [iv] at h0
    | cons a r =>
      obtain ⟨b, off, rfl, _, _⟩ := h.at (k := 0) (a := a) rfl
      exact ⟨_, rfl, ints_cells (h.keep hb)⟩
  have HIV : Hid (∀ l : List Int, ∀ v ∈ iv l, v.oneCell' = true) := fun l v hv => by
    simp [iv] at hv
    obtain ⟨a, _, rfl⟩ := hv
    rfl
  obtain ⟨S, hS⟩ : ∃ S, S = simpS xs := ⟨_, rfl⟩
  obtain ⟨R, hR⟩ : ∃ R, R = xs.reverse := ⟨_, rfl⟩
  obtain ⟨J, hJ⟩ : ∃ J, J = joinL xs ys := ⟨_, rfl⟩
  have HSRJ : Hid (S = simpS xs ∧ R = xs.reverse ∧ J = joinL xs ys) := ⟨hS, hR, hJ⟩
  have HSI : Hid (∀ (wx : World) (gx gy : Nat), MS w wx xs ys gx gy → Calls Try.prog 8 #[.slice (some ⟨gx, 0, none⟩) xs.length (xs.length + 2)] wx fun e w' => ∃ so sc, e = .returned (.slice so S.length sc) ∧ AR wx.heap.size w'.heap.size w' so sc S ∧ Below wx.heap.size wx w') := fun wx gx gy h => by
    refine (simple_calls _ _ xs wx (marked_ints h.x) HX.out.2 (by omega)).mono ?_
    rintro e w' ⟨so, sc, he, ho, hb⟩
    rw [← hS] at he ho
    exact ⟨so, sc, he, AR.new ho, hb⟩
  have HBK : Hid (∀ (wx : World) (gx gy : Nat), MS w wx xs ys gx gy → Calls Try.prog 17 #[.slice (some ⟨gx, 0, none⟩) xs.length (xs.length + 2)] wx fun e w' => ∃ so sc, e = .returned (.slice so R.length sc) ∧ AR wx.heap.size w'.heap.size w' so sc R ∧ Below wx.heap.size wx w') := fun wx gx gy h => by
    refine (back_calls _ _ xs wx (marked_ints h.x) (fun a e => by cases e; rfl) (by omega)).mono ?_
    rintro e w' ⟨so, sc, he, ho, hb⟩
    rw [← hR] at he ho
    exact ⟨so, sc, he, AR.new ho, hb⟩
  have HJN : Hid (∀ (wx : World) (gx gy : Nat), MS w wx xs ys gx gy → Calls Try.prog 16 #[.slice (some ⟨gx, 0, none⟩) xs.length (xs.length + 2), .slice (some ⟨gy, 0, none⟩) ys.length (ys.length + 2)] wx fun e w' => ∃ so sc ev, e = .returned (.tuple #[.slice so J.length sc, ev]) ∧ AR wx.heap.size w'.heap.size w' so sc J ∧ Below wx.heap.size wx w') := fun wx gx gy h => by
    refine (join_any _ _ _ _ xs ys wx (marked_ints h.x) (marked_ints h.y) (by omega) (by omega)).mono ?_
    rintro e w' ⟨so, sc, he, ho, hb⟩
    rw [← hJ] at he ho
    exact ⟨so, sc, _, he, AR.new ho, hb⟩
  clear hx hy hc hwx hS hR hJ
  go_enter Try.func5, Try.ntmps5
  go_wp2_with fail
  refine (awake9_calls w).mono ?_
  rintro e w1 ⟨rfl, hb⟩
  have HB : Hid (Below w.heap.size w w1) := hb
  have hs1 := hb.size
  clear hb
  go_wp2_with (first
    | (at_builtin; refine wpList_append_own_spare _ rfl _ _ 22 rfl w.heap.size 3 i0 1 Try.underlying22 hi hz1 w3.heap.size ys.length (ys.length + 2) (iv ys) rfl (iown_alloc (own_copied H4.out.1 hLY h2 hs3) _) ⟨w4.heap.size, 0, none⟩ 2 2 [.int .i64 43, .int .i64 44] rfl rfl (cells_pair _ _ _ _) (HIV.out [43, 44]) (Nat.le_refl _) ?_; intro w5 hY hg; have H5 : Hid (MS w w5 xs ys w1.heap.size w3.heap.size) := ms_made H3.out.1 H3.out.2 H4.out.2 (by rw [iv_append]; exact hY) hg; clear hY hg)
    | (refine wpList_copy_splice rfl _ _ 22 22 rfl 3 Try.underlying22 hsz (some ⟨w3.heap.size, 0, none⟩) bo ys.length (ys.length + 2) ys.length bc rfl rfl w3.heap.size 0 LY 3 (heap_new _ _) (iv ys) (by rw [iv_len1]; exact (Nat.min_self _).symm) (fun h0 => ⟨rfl, HSRC.out _ bo bc ys (H3.out.2.alloc hs3 _) HY.out.1 h0⟩) (by rw [iv_len1, hLY]; omega) (HIV.out ys) w3.heap.size w3 ((Below.refl _ w3).alloc (Nat.le_refl _) _) (Nat.le_refl _) ?_; intro w4 hY hb4; have H4 : Hid (w4.heap[w3.heap.size]? = some (.cells (splice LY 0 (iv ys)).toArray 3) ∧ Below w3.heap.size w3 w4) := ⟨hY.out, hb4⟩; clear hY hb4)
    | (at_builtin; refine wpList_append_own_spare _ rfl _ _ 22 rfl w.heap.size 3 i0 1 Try.underlying22 hi hz1 w1.heap.size xs.length (xs.length + 2) (iv xs) rfl (iown_alloc (own_copied H2.out.1 hLX h1 hs1) _) ⟨w2.heap.size, 0, none⟩ 2 2 [.int .i64 41, .int .i64 42] rfl rfl (cells_pair _ _ _ _) (HIV.out [41, 42]) (Nat.le_refl _) ?_; intro w3 hX hg; have H3 : Hid (w3.ownsRow w.heap.size 3 1 (.slice (some ⟨w1.heap.size, 0, none⟩) (xs.length + 2) (xs.length + 2)) (xs.length + 2) (iv (xs ++ [41, 42])) ∧ Below w.heap.size w w3) := ⟨by rw [iv_append]; exact hX, below_g (H2.out.2.alloc H2.out.2.size _) hg (fun k e => by cases e; exact hs1)⟩; have hs3 := H3.out.2.size; clear hX hg)
    | (refine wpList_copy_splice rfl _ _ 22 22 rfl 3 Try.underlying22 hsz (some ⟨w1.heap.size, 0, none⟩) ao xs.length (xs.length + 2) xs.length ac rfl rfl w1.heap.size 0 LX 3 (heap_new _ _) (iv xs) (by rw [iv_len1]; exact (Nat.min_self _).symm) (fun h0 => ⟨rfl, HSRC.out _ ao ac xs (HB.out.alloc hs1 _) HX.out.1 h0⟩) (by rw [iv_len1, hLX]; omega) (HIV.out xs) w.heap.size w (HB.out.alloc hs1 _) hs1 ?_; intro w2 hX hb2; have H2 : Hid (w2.heap[w1.heap.size]? = some (.cells (splice LX 0 (iv xs)).toArray 3) ∧ Below w.heap.size w w2) := ⟨hX.out, hb2⟩; clear hX hb2))
  have hs5 : w3.heap.size < w5.heap.size := (H5.out.y.lt _ rfl).2
  have hs31 : w1.heap.size < w3.heap.size := H5.out.ne
  refine (HSI.out w5 _ _ H5.out).mono ?_
  rintro e w6 ⟨so, sc, rfl, ho, hb⟩
  have H6 : Hid (MS w w6 xs ys w1.heap.size w3.heap.size ∧ AR w5.heap.size w6.heap.size w6 so sc S) := ⟨H5.out.keep hb, ho⟩
  have hs6 := hb.size
  clear ho hb H5
  go_wp2_with fail
  refine (HSI.out w6 _ _ H6.out.1).mono ?_
  rintro e w7 ⟨uo, uc, rfl, ho, hb⟩
  have H7 : Hid (MS w w7 xs ys w1.heap.size w3.heap.size ∧ AR w5.heap.size w6.heap.size w7 so sc S ∧ AR w6.heap.size w7.heap.size w7 uo uc S) := ⟨H6.out.1.keep hb, H6.out.2.keep hb, ho⟩
  have hs7 := hb.size
  clear ho hb H6
  go_wp2_with fail
  refine (HBK.out w7 _ _ H7.out.1).mono ?_
  rintro e w8 ⟨po, pc, rfl, ho, hb⟩
  have H8 : Hid (MS w w8 xs ys w1.heap.size w3.heap.size ∧ AR w5.heap.size w6.heap.size w8 so sc S ∧ AR w6.heap.size w7.heap.size w8 uo uc S ∧ AR w7.heap.size w8.heap.size w8 po pc R) := ⟨H7.out.1.keep hb, H7.out.2.1.keep hb, H7.out.2.2.keep hb, ho⟩
  have hs8 := hb.size
  clear ho hb H7
  go_wp2_with fail
  refine (HBK.out w8 _ _ H8.out.1).mono ?_
  rintro e w9 ⟨qo, qc, rfl, ho, hb⟩
  have H9 : Hid (MS w w9 xs ys w1.heap.size w3.heap.size ∧ AR w5.heap.size w6.heap.size w9 so sc S ∧ AR w6.heap.size w7.heap.size w9 uo uc S ∧ AR w7.heap.size w8.heap.size w9 po pc R ∧ AR w8.heap.size w9.heap.size w9 qo qc R) := ⟨H8.out.1.keep hb, H8.out.2.1.keep hb, H8.out.2.2.1.keep hb, H8.out.2.2.2.keep hb, ho⟩
  have hs9 := hb.size
  clear ho hb H8
  go_wp2_with fail
  refine (HJN.out w9 _ _ H9.out.1).mono ?_
  rintro e w10 ⟨lo, lc, lv, rfl, ho, hb⟩
  have H10 : Hid (MS w w10 xs ys w1.heap.size w3.heap.size ∧ AR w5.heap.size w6.heap.size w10 so sc S ∧ AR w6.heap.size w7.heap.size w10 uo uc S ∧ AR w7.heap.size w8.heap.size w10 po pc R ∧ AR w8.heap.size w9.heap.size w10 qo qc R ∧ AR w9.heap.size w10.heap.size w10 lo lc J) := ⟨H9.out.1.keep hb, H9.out.2.1.keep hb, H9.out.2.2.1.keep hb, H9.out.2.2.2.1.keep hb, H9.out.2.2.2.2.keep hb, ho⟩
  have hs10 := hb.size
  clear ho hb H9
  go_wp2_with fail
  refine (HJN.out w10 _ _ H10.out.1).mono ?_
  rintro e w11 ⟨mo, mc, mv, rfl, ho, hb⟩
  have H11 : Hid (MS w w11 xs ys w1.heap.size w3.heap.size ∧ AR w5.heap.size w6.heap.size w11 so sc S ∧ AR w6.heap.size w7.heap.size w11 uo uc S ∧ AR w7.heap.size w8.heap.size w11 po pc R ∧ AR w8.heap.size w9.heap.size w11 qo qc R ∧ AR w9.heap.size w10.heap.size w11 lo lc J ∧ AR w10.heap.size w11.heap.size w11 mo mc J) := ⟨H10.out.1.keep hb, H10.out.2.1.keep hb, H10.out.2.2.1.keep hb, H10.out.2.2.2.1.keep hb, H10.out.2.2.2.2.1.keep hb, H10.out.2.2.2.2.2.keep hb, ho⟩
  have hs11 := hb.size
  clear ho hb H10
  go_wp2_with fail
  refine (sameInts_yes _ _ xs w11 (marked_ints H11.out.1.x) (HX.out.1.keep H11.out.1.below) (by unfold maxLen; omega)).mono ?_
  rintro e w12 ⟨rfl, hb⟩
  have H12 : Hid (MS w w12 xs ys w1.heap.size w3.heap.size ∧ AR w5.heap.size w6.heap.size w12 so sc S ∧ AR w6.heap.size w7.heap.size w12 uo uc S ∧ AR w7.heap.size w8.heap.size w12 po pc R ∧ AR w8.heap.size w9.heap.size w12 qo qc R ∧ AR w9.heap.size w10.heap.size w12 lo lc J ∧ AR w10.heap.size w11.heap.size w12 mo mc J) := ⟨H11.out.1.keep hb, H11.out.2.1.keep hb, H11.out.2.2.1.keep hb, H11.out.2.2.2.1.keep hb, H11.out.2.2.2.2.1.keep hb, H11.out.2.2.2.2.2.1.keep hb, H11.out.2.2.2.2.2.2.keep hb⟩
  have hs12 := hb.size
  clear hb H11
  obtain ⟨x41, x42, xl⟩ := marked_cells H12.out.1.x
  have j1 : (xs.length : Int) < (xs.length : Int) + 2 := by omega
  have j2 : (xs.length : Int) + 1 < (xs.length : Int) + 2 := by omega
  have j3 : (0 : Int) ≤ (xs.length : Int) := by omega
  have j4 : (0 : Int) ≤ (xs.length : Int) + 1 := by omega
  have j5 : IntKind.i64.wrap ((xs.length : Int) + 1) = (xs.length : Int) + 1 := by rw [IntKind.wrap_i64] <;> omega
  have k1 : (ys.length : Int) < (ys.length : Int) + 2 := by omega
  have k2 : (ys.length : Int) + 1 < (ys.length : Int) + 2 := by omega
  have k3 : (0 : Int) ≤ (ys.length : Int) := by omega
  have k4 : (0 : Int) ≤ (ys.length : Int) + 1 := by omega
  have k5 : IntKind.i64.wrap ((ys.length : Int) + 1) = (ys.length : Int) + 1 := by rw [IntKind.wrap_i64] <;> omega
  go_wp2_with fail
  refine (sameInts_yes _ _ ys w12 (marked_ints H12.out.1.y) (HY.out.1.keep H12.out.1.below) (by unfold maxLen; omega)).mono ?_
  rintro e w13 ⟨rfl, hb⟩
  have H13 : Hid (MS w w13 xs ys w1.heap.size w3.heap.size ∧ AR w5.heap.size w6.heap.size w13 so sc S ∧ AR w6.heap.size w7.heap.size w13 uo uc S ∧ AR w7.heap.size w8.heap.size w13 po pc R ∧ AR w8.heap.size w9.heap.size w13 qo qc R ∧ AR w9.heap.size w10.heap.size w13 lo lc J ∧ AR w10.heap.size w11.heap.size w13 mo mc J) := ⟨H12.out.1.keep hb, H12.out.2.1.keep hb, H12.out.2.2.1.keep hb, H12.out.2.2.2.1.keep hb, H12.out.2.2.2.2.1.keep hb, H12.out.2.2.2.2.2.1.keep hb, H12.out.2.2.2.2.2.2.keep hb⟩
  have hs13 := hb.size
  clear hb H12 x41 x42 xl
  obtain ⟨y43, y44, yl⟩ := marked_cells H13.out.1.y
  clear a1 a2 hmx hmy hLX hLY e1 e2 hi hz0 hz1 hz2 hsz
  go_wp2_with fail
  have hN : (w13.alloc (.cells #[.slice (some ⟨w1.heap.size, 0, none⟩) (xs.length + 2) (xs.length + 2), .slice (some ⟨w3.heap.size, 0, none⟩) (ys.length + 2) (ys.length + 2), .slice so S.length sc, .slice po R.length pc, .slice lo J.length lc] 22)).heap[w13.heap.size]? = some (.cells #[.slice (some ⟨w1.heap.size, 0, none⟩) (xs.length + 2) (xs.length + 2), .slice (some ⟨w3.heap.size, 0, none⟩) (ys.length + 2) (ys.length + 2), .slice so S.length sc, .slice po R.length pc, .slice lo J.length lc] 22) := heap_new _ _
  have hb : Below w13.heap.size w13 (w13.alloc (.cells #[.slice (some ⟨w1.heap.size, 0, none⟩) (xs.length + 2) (xs.length + 2), .slice (some ⟨w3.heap.size, 0, none⟩) (ys.length + 2) (ys.length + 2), .slice so S.length sc, .slice po R.length pc, .slice lo J.length lc] 22)) := (Below.refl _ _).alloc (Nat.le_refl _) _
  generalize w13.alloc (.cells #[.slice (some ⟨w1.heap.size, 0, none⟩) (xs.length + 2) (xs.length + 2), .slice (some ⟨w3.heap.size, 0, none⟩) (ys.length + 2) (ys.length + 2), .slice so S.length sc, .slice po R.length pc, .slice lo J.length lc] 22) = W at *
  have H14 : Hid (MS w W xs ys w1.heap.size w3.heap.size ∧ AR w5.heap.size w6.heap.size W so sc S ∧ AR w6.heap.size w7.heap.size W uo uc S ∧ AR w7.heap.size w8.heap.size W po pc R ∧ AR w8.heap.size w9.heap.size W qo qc R ∧ AR w9.heap.size w10.heap.size W lo lc J ∧ AR w10.heap.size w11.heap.size W mo mc J) := ⟨H13.out.1.keep hb, H13.out.2.1.keep hb, H13.out.2.2.1.keep hb, H13.out.2.2.2.1.keep hb, H13.out.2.2.2.2.1.keep hb, H13.out.2.2.2.2.2.1.keep hb, H13.out.2.2.2.2.2.2.keep hb⟩
  obtain ⟨Q, hQ⟩ : ∃ Q : Nat → Prop, Q = fun k => k = w1.heap.size ∨ k = w3.heap.size ∨ (w5.heap.size ≤ k ∧ k < w6.heap.size) ∨ (w7.heap.size ≤ k ∧ k < w8.heap.size) ∨ (w9.heap.size ≤ k ∧ k < w10.heap.size) := ⟨_, rfl⟩
  have HQ : Hid (∀ k, Q k ↔ (k = w1.heap.size ∨ k = w3.heap.size ∨ (w5.heap.size ≤ k ∧ k < w6.heap.size) ∨ (w7.heap.size ≤ k ∧ k < w8.heap.size) ∨ (w9.heap.size ≤ k ∧ k < w10.heap.size))) := fun k => by rw [hQ]
  have HWR : Hid (∀ k, k < 5 → ∃ mo ml mc, #[Value.slice (some ⟨w1.heap.size, 0, none⟩) (xs.length + 2) (xs.length + 2), .slice (some ⟨w3.heap.size, 0, none⟩) (ys.length + 2) (ys.length + 2), .slice so S.length sc, .slice po R.length pc, .slice lo J.length lc][k]? = some (.slice mo ml mc) ∧ ml ≤ 9223372036854775807 ∧ WR Q W mo ml) := fun k hk => by
    have hin : ∀ {B C : Nat} {o : Option Addr} {c : Nat} {l : List Int}, AR B C W o c l → (∀ k, B ≤ k → k < C → Q k) → WR Q W o l.length := fun h hq => wr_of h.1 fun k hk => hq k (h.1.lt k hk).1 (h.2 k hk)
    have hsm : ∀ {B C : Nat} {o : Option Addr} {c : Nat} {l : List Int}, AR B C W o c l → l.length ≤ 9223372036854775807 := fun h => by
      rcases h.1.2 with ⟨_, e⟩ | ⟨g, cap, cur, e, _, hh, hle, hmx, _⟩
      · omega
      · unfold maxLen at hmx; omega
    rcases k with _ | _ | _ | _ | _ | k
    · exact ⟨_, _, _, rfl, by omega, wr_of H14.out.1.x fun k hk => (HQ.out k).2 (Or.inl (Option.some.inj hk).symm)⟩
    · exact ⟨_, _, _, rfl, by omega, wr_of H14.out.1.y fun k hk => (HQ.out k).2 (Or.inr (Or.inl (Option.some.inj hk).symm))⟩
    · exact ⟨_, _, _, rfl, hsm H14.out.2.1, hin H14.out.2.1 fun k a b => (HQ.out k).2 (Or.inr (Or.inr (Or.inl ⟨a, b⟩)))⟩
    · exact ⟨_, _, _, rfl, hsm H14.out.2.2.2.1, hin H14.out.2.2.2.1 fun k a b => (HQ.out k).2 (Or.inr (Or.inr (Or.inr (Or.inl ⟨a, b⟩))))⟩
    · exact ⟨_, _, _, rfl, hsm H14.out.2.2.2.2.2.1, hin H14.out.2.2.2.2.2.1 fun k a b => (HQ.out k).2 (Or.inr (Or.inr (Or.inr (Or.inr ⟨a, b⟩))))⟩
    · omega
  have HT : Hid (∀ wx, SW Q W wx → wx.heap[w13.heap.size]? = some (.cells #[.slice (some ⟨w1.heap.size, 0, none⟩) (xs.length + 2) (xs.length + 2), .slice (some ⟨w3.heap.size, 0, none⟩) (ys.length + 2) (ys.length + 2), .slice so S.length sc, .slice po R.length pc, .slice lo J.length lc] 22) ∧ w13.heap.size < wx.heap.size) := fun wx hx => by
    have g1 : w1.heap.size < w13.heap.size := (H13.out.1.x.lt _ rfl).2
    have g2 : w3.heap.size < w13.heap.size := (H13.out.1.y.lt _ rfl).2
    have hq : ¬ Q w13.heap.size := fun h => by
      rcases (HQ.out _).1 h with h | h | h | h | h <;> omega
    have h := (hx.block _ (lt_of_get hN) hq).trans hN
    exact ⟨h, lt_of_get h⟩
  have HSV : Hid (∀ wx, SW Q W wx → HasInts wx (.slice uo S.length uc) S ∧ HasInts wx (.slice qo R.length qc) R ∧ HasInts wx (.slice mo J.length mc) J ∧ Below w.heap.size w wx) := fun wx hx => by
    have st : ∀ {B C : Nat} {o : Option Addr} {c : Nat} {l : List Int}, AR B C W o c l → (∀ k, B ≤ k → k < C → ¬ Q k) → HasInts wx (.slice o l.length c) l := fun h hq => ints_of_iown (iown_keep h.1 fun k hk => hx.block k (h.1.lt k hk).2 (hq k (h.1.lt k hk).1 (h.2 k hk)))
    refine ⟨st H14.out.2.2.1 fun k a b h => ?_, st H14.out.2.2.2.2.1 fun k a b h => ?_, st H14.out.2.2.2.2.2.2 fun k a b h => ?_, ?_⟩
    · rcases (HQ.out _).1 h with h | h | h | h | h <;> omega
    · rcases (HQ.out _).1 h with h | h | h | h | h <;> omega
    · rcases (HQ.out _).1 h with h | h | h | h | h <;> omega
    · have hb := H14.out.1.below
      refine ⟨hx.os.trans hb.os, hx.tape.trans hb.tape, hx.output.trans hb.output, Nat.le_trans hb.size hx.size, fun k hk => (hx.block k (Nat.lt_of_lt_of_le hk hb.size) fun e => ?_).trans (hb.block k hk)⟩
      rcases (HQ.out _).1 e with h | h | h | h | h <;> omega
  have HDJ : Hid (∀ wx, Below w.heap.size w wx → Calls Try.prog 19 #[.slice ao xs.length ac, .slice bo ys.length bc] wx fun e w' => ∃ no nc n, e = .returned (.tuple #[.slice no J.length nc, .agg #[.int .i64 n, .slice none 0 0]]) ∧ HasInts w' (.slice no J.length nc) J ∧ Below wx.heap.size wx w') := fun wx hb => by
    refine (docJoin_any ao bo ac bc xs ys wx (HX.out.1.keep hb) (HY.out.1.keep hb) HY.out.2 (by omega)).mono ?_
    rintro e w' ⟨so, sc, he, ho, hb'⟩
    rw [← HSRJ.out.2.2] at he ho
    exact ⟨so, sc, _, he, ints_of_iown ho, hb'⟩
  have HRS : Hid (∀ wx, Below w.heap.size w wx → Calls Try.prog 20 #[.slice ao xs.length ac] wx fun e w' => ∃ no nc, e = .returned (.slice no S.length nc) ∧ HasInts w' (.slice no S.length nc) S ∧ Below wx.heap.size wx w') := fun wx hb => by
    refine (rSimple_calls ao ac xs wx (HX.out.1.keep hb) (by omega)).mono ?_
    rintro e w' ⟨so, sc, he, ho, hb'⟩
    rw [← HSRJ.out.1] at he ho
    exact ⟨so, sc, he, ints_of_iown ho, hb'⟩
  have HRB : Hid (∀ wx, Below w.heap.size w wx → Calls Try.prog 21 #[.slice ao xs.length ac] wx fun e w' => ∃ no nc, e = .returned (.slice no R.length nc) ∧ HasInts w' (.slice no R.length nc) R ∧ Below wx.heap.size wx w') := fun wx hb => by
    refine (rBack_calls ao ac xs wx (HX.out.1.keep hb) (by omega)).mono ?_
    rintro e w' ⟨so, sc, he, ho, hb'⟩
    rw [← HSRJ.out.2.1] at he ho
    exact ⟨so, sc, he, ints_of_iown ho, hb'⟩
  have HLE : Hid (S.length ≤ maxLen ∧ R.length ≤ maxLen ∧ J.length ≤ maxLen) := by
    have hsm : ∀ {B C : Nat} {o : Option Addr} {c : Nat} {l : List Int}, AR B C W o c l → l.length ≤ maxLen := fun h => by
      rcases h.1.2 with ⟨_, e⟩ | ⟨g, cap, cur, e, _, hh, hle, hmx, _⟩
      · unfold maxLen; omega
      · omega
    exact ⟨hsm H14.out.2.1, hsm H14.out.2.2.2.1, hsm H14.out.2.2.2.2.2.1⟩
  clear hN hb hQ y43 y44 yl
  generalize w13.heap.size = sb at *
  go_loopw [133] (fun iv wr => ∃ k : Nat, k ≤ 5 ∧ iv = .int .i64 k ∧ SW Q W wr) (fun iv _ => 5 - (intOf iv).toNat)
  case atStart => exact ⟨0, by omega, rfl, SW.refl _ _⟩
  case round =>
    obtain ⟨k, hk, rfl, hS⟩ := hrel
    by_cases hlt : k < 5
    · obtain ⟨no, nl, nc, hc, hnl, hW⟩ := HWR.out k hlt
      obtain ⟨cs, cl⟩ := HT.out wr hS
      have ck : wr.cell? ⟨sb, k, none⟩ = some (.slice no nl nc) := by rw [← hc]; simp [World.cell?, cs]
      have b0 : (0 : Int) ≤ (k : Int) := by omega
      have b1 : (k : Int) < 5 := by omega
      have HWW : Hid (WR Q W no nl) := hW
      have HS : Hid (SW Q W wr) := hS
      clear hS hc cs hW
      go_wp2_with fail
      go_loopw [139] (fun iv wx => ∃ i : Nat, i ≤ nl ∧ iv = .int .i64 i ∧ SW Q W wx) (fun iv _ => nl - (intOf iv).toNat)
      case atStart => exact ⟨0, by omega, rfl, HS.out⟩
      case round =>
        obtain ⟨i, hi1, rfl, hs⟩ := hrel
        have HS1 : Hid (SW Q W wr) := hs
        by_cases hil : i < nl
        · obtain ⟨gm, v, e, hq, c0, c1, c2⟩ := HWW.out.at hs hil
          subst e
          have HQG : Hid (Q gm) := hq
          have d0 : (0 : Int) ≤ (i : Int) := by omega
          have d1 : (i : Int) < (nl : Int) := by omega
          clear hs hq
          go_wp2
          go_roundw
          case rel => exact ⟨i + 1, by omega, by go_num, HS1.out.set HQG.out _ _⟩
          case measure => simp [intOf]; omega
        · clear hs
          go_wp2
          exact ⟨⟨k + 1, by omega, by go_num, HS1.out⟩, by simp [intOf]; omega⟩
    · obtain rfl : k = 5 := by omega
      have HS : Hid (SW Q W wr) := hS
      clear hS
      go_wp2_with fail
      obtain ⟨v1, v2, v3, v4⟩ := HSV.out wr HS.out
      have HV : Hid (HasInts wr (.slice uo S.length uc) S ∧ HasInts wr (.slice qo R.length qc) R ∧ HasInts wr (.slice mo J.length mc) J ∧ Below w.heap.size w wr) := ⟨v1, v2, v3, v4⟩
      clear v1 v2 v3 v4
      refine (HDJ.out wr HV.out.2.2.2).mono ?_
      rintro e w20 ⟨no, nc, n, rfl, ho, hb⟩
      have HV2 : Hid (HasInts w20 (.slice uo S.length uc) S ∧ HasInts w20 (.slice qo R.length qc) R ∧ HasInts w20 (.slice mo J.length mc) J ∧ HasInts w20 (.slice no J.length nc) J ∧ Below w.heap.size w w20) := ⟨HV.out.1.keep hb, HV.out.2.1.keep hb, HV.out.2.2.1.keep hb, ho, btr HV.out.2.2.2 hb⟩
      clear ho hb HV
      go_wp2_with fail
      have hb : Below w20.heap.size w20 (w20.alloc (.cells #[.int .i64 n, .slice none 0 0] 50)) := (Below.refl _ _).alloc (Nat.le_refl _) _
      generalize w20.alloc (.cells #[.int .i64 n, .slice none 0 0] 50) = w21 at *
      have HV3 : Hid (HasInts w21 (.slice uo S.length uc) S ∧ HasInts w21 (.slice qo R.length qc) R ∧ HasInts w21 (.slice mo J.length mc) J ∧ HasInts w21 (.slice no J.length nc) J ∧ Below w.heap.size w w21) := ⟨HV2.out.1.keep hb, HV2.out.2.1.keep hb, HV2.out.2.2.1.keep hb, HV2.out.2.2.2.1.keep hb, btr HV2.out.2.2.2.2 hb⟩
      clear hb HV2
      refine (HRS.out w21 HV3.out.2.2.2.2).mono ?_
      rintro e w22 ⟨so2, sc2, rfl, ho, hb⟩
      have HV4 : Hid (HasInts w22 (.slice so2 S.length sc2) S ∧ HasInts w22 (.slice uo S.length uc) S ∧ HasInts w22 (.slice qo R.length qc) R ∧ HasInts w22 (.slice mo J.length mc) J ∧ HasInts w22 (.slice no J.length nc) J ∧ Below w.heap.size w w22) := ⟨ho, HV3.out.1.keep hb, HV3.out.2.1.keep hb, HV3.out.2.2.1.keep hb, HV3.out.2.2.2.1.keep hb, btr HV3.out.2.2.2.2 hb⟩
      clear ho hb HV3
      go_wp2_with fail
      refine (sameInts_yes _ _ S w22 HV4.out.2.1 HV4.out.1 HLE.out.1).mono ?_
      rintro e w23 ⟨rfl, hb⟩
      have HV5 : Hid (HasInts w23 (.slice uo S.length uc) S ∧ HasInts w23 (.slice qo R.length qc) R ∧ HasInts w23 (.slice mo J.length mc) J ∧ HasInts w23 (.slice no J.length nc) J ∧ Below w.heap.size w w23) := ⟨HV4.out.2.1.keep hb, HV4.out.2.2.1.keep hb, HV4.out.2.2.2.1.keep hb, HV4.out.2.2.2.2.1.keep hb, btr HV4.out.2.2.2.2.2 hb⟩
      clear hb HV4
      go_wp2_with fail
      refine (HRB.out w23 HV5.out.2.2.2.2).mono ?_
      rintro e w24 ⟨so3, sc3, rfl, ho, hb⟩
      have HV6 : Hid (HasInts w24 (.slice so3 R.length sc3) R ∧ HasInts w24 (.slice uo S.length uc) S ∧ HasInts w24 (.slice qo R.length qc) R ∧ HasInts w24 (.slice mo J.length mc) J ∧ HasInts w24 (.slice no J.length nc) J ∧ Below w.heap.size w w24) := ⟨ho, HV5.out.1.keep hb, HV5.out.2.1.keep hb, HV5.out.2.2.1.keep hb, HV5.out.2.2.2.1.keep hb, btr HV5.out.2.2.2.2 hb⟩
      clear ho hb HV5
      go_wp2_with fail
      refine (sameInts_yes _ _ R w24 HV6.out.2.2.1 HV6.out.1 HLE.out.2.1).mono ?_
      rintro e w25 ⟨rfl, hb⟩
      have HV7 : Hid (HasInts w25 (.slice uo S.length uc) S ∧ HasInts w25 (.slice qo R.length qc) R ∧ HasInts w25 (.slice mo J.length mc) J ∧ HasInts w25 (.slice no J.length nc) J ∧ Below w.heap.size w w25) := ⟨HV6.out.2.1.keep hb, HV6.out.2.2.1.keep hb, HV6.out.2.2.2.1.keep hb, HV6.out.2.2.2.2.1.keep hb, btr HV6.out.2.2.2.2.2 hb⟩
      clear hb HV6
      go_wp2_with fail
      refine (sameInts_yes _ _ J w25 HV7.out.2.2.1 HV7.out.2.2.2.1 HLE.out.2.2).mono ?_
      rintro e w26 ⟨rfl, hb⟩
      have HV8 : Hid (Below w.heap.size w w26) := btr HV7.out.2.2.2.2 hb
      clear hb HV7
      go_wp2
      go_ret
      exact ⟨rfl, HV8.out⟩
/-- the law, whatever the lists. -/
theorem memory9_calls (ao bo : Option Addr) (ac bc : Nat) (xs ys : List Int) (w : World) (hx : HasInts w (.slice ao xs.length ac) xs) (hy : HasInts w (.slice bo ys.length bc) ys) (mx : xs.length * 8 ≤ 140737488351232) (my : ys.length * 8 ≤ 140737488351232) (hc : ys.length ≤ bc) (hwx : ∀ x ∈ xs, (Lit.int .i64 x).wf = true) :
    Calls Try.prog 5 #[.slice ao xs.length ac, .slice bo ys.length bc] w fun e w' => e = .returned (.bool true) ∧ Below w.heap.size w w' := by
  by_cases h : 300 < xs.length ∨ 300 < ys.length
  · exact memory9_far ao bo ac bc xs ys w mx my h
  · exact memory9_near ao bo ac bc xs ys w hx hy (by omega) (by omega) hc hwx
end Go.Proofs.Ytfjpnbdleckefaa
