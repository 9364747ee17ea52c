/- viaductref05.DocCheck at arrays whose lengths are wrong. -/
import Derived.Test.YtbaahjppofbdlaaGreatDoorCsrOps
import Derived.Test.YtbaahjppofbdlaaGreatDoorDocCheck
import Derived.BigQuiet
namespace Go.Proofs.YtbaahjppofbdlaaGreatDoor
open Go.RowKit Go.Extern

attribute [local go_sem] Oper.semAt_some

/-- what the reference tells: a number and places. -/
def DocAns (w : World) (E : Int × List (Int × Int)) (e : Ending) (w' : World) : Prop := ∃ lo lc, e = .returned (.agg #[.int .i64 E.1, .slice lo E.2.length lc]) ∧ HasPlaces w' (.slice lo E.2.length lc) E.2 ∧ Below w.heap.size w w'
theorem places_nil (w : World) : HasPlaces w (.slice none 0 0) [] := ⟨none, 0, rfl, fun j p hj => by simp at hj⟩
theorem places_one {w : World} {g : Nat} {k a : Int} (h : w.heap[g]? = some (.cells #[.int .i64 k, .int .i64 a] 84)) : HasPlaces w (.slice (some ⟨g, 0, none⟩) 1 1) [(k, a)] := by
  refine ⟨some ⟨g, 0, none⟩, 1, rfl, fun j p hj => ?_⟩
  rcases j with _ | j
  · simp at hj
    subst hj
    exact ⟨g, 0, rfl, lt_of_get h, by simp [World.cell?, h], by simp [World.cell?, h]⟩
  · simp at hj
theorem lay_ne {w : World} {g b : Nat} {o : Obj} (h : w.heap[g]? = some o) (hne : g ≠ b) (c0 c1 : Value) : ((w.setCell ⟨b, 0, none⟩ c0).setCell ⟨b, 1, none⟩ c1).heap[g]? = some o :=
  ((heap_setCell_other _ _ _ _ hne).trans (heap_setCell_other _ _ _ _ hne)).trans h
theorem btr {w wm wy : World} (h1 : Below w.heap.size w wm) (h2 : Below wm.heap.size wm wy) : Below w.heap.size w wy := h1.trans (h2.mono h1.size)
theorem drewN_below {w wx : World} (h : Below w.heap.size w wx) (q : Nat) : Below w.heap.size w (wx.drewN q) := ⟨h.os, h.tape, h.output, h.size, h.block⟩
/-- the boxes of a call of DocCheck. -/
structure DB (w : World) (c0 c1 c2 : Value) (wx : World) : Prop where
  below : Below w.heap.size w wx
  box : wx.heap[w.heap.size]? = some (.cells #[c0, c1, c2] 55)
  res : wx.heap[w.heap.size + 1]? = some (.cells #[.int .i64 0, .slice none 0 0] 51)
theorem DB.keep {w wx wy : World} {c0 c1 c2 : Value} (h : DB w c0 c1 c2 wx) (hb : Below wx.heap.size wx wy) : DB w c0 c1 c2 wy := ⟨btr h.below hb, (hb.block _ (lt_of_get h.box)).trans h.box, (hb.block _ (lt_of_get h.res)).trans h.res⟩
theorem DB.drew {w wx : World} {c0 c1 c2 : Value} (h : DB w c0 c1 c2 wx) (q : Nat) : DB w c0 c1 c2 (wx.drewN q) := ⟨drewN_below h.below q, h.box, h.res⟩
theorem DB.made (w : World) (c0 c1 c2 : Value) : DB w c0 c1 c2 ((w.alloc (.cells #[c0, c1, c2] 55)).alloc (.cells #[.int .i64 0, .slice none 0 0] 51)) := by
  refine ⟨((Below.refl _ w).alloc (Nat.le_refl _) _).alloc (by simp) _, ?_, ?_⟩
  · rw [Below.heap_alloc _ _ _ (by simp)]; exact heap_new _ _
  · have h := heap_new (w.alloc (.cells #[c0, c1, c2] 55)) (.cells #[.int .i64 0, .slice none 0 0] 51)
    simpa using h

set_option maxRecDepth 100000 in
set_option maxHeartbeats 4000000 in
theorem dc_a (fo uo wo : Option Addr) (fc tl tc wl wc : Nat) (w : World) :
    Calls Tryz.prog 85 #[.agg #[.slice fo 0 fc, .slice uo tl tc, .slice wo wl wc]] w (DocAns w (14, [])) := by
  have HDB : Hid (type_of% (DB.made w (.slice fo 0 fc) (.slice uo tl tc) (.slice wo wl wc))) := DB.made w (.slice fo 0 fc) (.slice uo tl tc) (.slice wo wl wc)
  go_enter Tryz.func85, Tryz.ntmps85
  go_wp2_with fail
  generalize hW : (w.alloc (.cells #[.slice fo 0 fc, .slice uo tl tc, .slice wo wl wc] 55)).alloc (.cells #[.int .i64 0, .slice none 0 0] 51) = W0 at *
  clear hW
  obtain ⟨c0, c1, c2⟩ := box3 HDB.out.box
  have cs := lt_of_get HDB.out.box
  go_quiet (fail)
  have HD2 : Hid (type_of% (HDB.out.drew nq)) := HDB.out.drew nq
  go_wp2_with fail
  refine (E_calls 14 _).mono ?_
  rintro e w1 ⟨rfl, hb1⟩
  have HD1 : Hid (type_of% (HD2.out.keep hb1)) := HD2.out.keep hb1
  obtain ⟨b0, b1, y0, y1⟩ := cell_two HD1.out.res
  have hs2 := lt_of_get HD1.out.res
  clear hb1
  go_wp2
  refine bodyPost_ret (v := .agg #[.int .i64 14, .slice none 0 0]) (by simp [results, Tryz.results85, go_sem, b0, b1]) rfl ?_
  exact ⟨_, _, rfl, places_nil _, Below.lay HD1.out.below _ _⟩

set_option maxRecDepth 100000 in
set_option maxHeartbeats 4000000 in
theorem dc_b (fb fof : Nat) (uo wo : Option Addr) (n fc tl tc wl wc : Nat) (x y : Int) (w : World) (h0 : w.cell? ⟨fb, fof, none⟩ = some (.int .i64 x)) (hn : w.cell? ⟨fb, fof + n, none⟩ = some (.int .i64 y)) (hl : fb < w.heap.size) (hm : n < maxLen) (hx : x ≠ 0) :
    Calls Tryz.prog 85 #[.agg #[.slice (some ⟨fb, fof, none⟩) (n + 1) fc, .slice uo tl tc, .slice wo wl wc]] w (DocAns w (14, [])) := by
  unfold maxLen at hm
  have e1 : (0 : Int) < ((n + 1 : Nat) : Int) := by omega
  have e2 : IntKind.i64.wrap (((n + 1 : Nat) : Int) - 1) = (n : Int) := by rw [IntKind.wrap_i64] <;> omega
  have e2' : IntKind.i64.wrap ((n : Int) + 1 - 1) = (n : Int) := by rw [IntKind.wrap_i64] <;> omega
  have e3 : ¬ (n : Int) < 0 := by omega
  have e4 : (n : Int) < (n : Int) + 1 := by omega
  have e5 : (0 : Int) ≤ (n : Int) := by omega
  have HDB : Hid (type_of% (DB.made w (.slice (some ⟨fb, fof, none⟩) (n + 1) fc) (.slice uo tl tc) (.slice wo wl wc))) := DB.made w (.slice (some ⟨fb, fof, none⟩) (n + 1) fc) (.slice uo tl tc) (.slice wo wl wc)
  go_enter Tryz.func85, Tryz.ntmps85
  go_wp2_with fail
  generalize hW : (w.alloc (.cells #[.slice (some ⟨fb, fof, none⟩) (n + 1) fc, .slice uo tl tc, .slice wo wl wc] 55)).alloc (.cells #[.int .i64 0, .slice none 0 0] 51) = W0 at *
  clear hW
  obtain ⟨c0, c1, c2⟩ := box3 HDB.out.box
  have cs := lt_of_get HDB.out.box
  have q0 := (HDB.out.below.cell (p := ⟨fb, fof, none⟩) hl).trans h0
  have q1 := (HDB.out.below.cell (p := ⟨fb, fof + n, none⟩) hl).trans hn
  have ql : fb < W0.heap.size := Nat.lt_of_lt_of_le hl HDB.out.below.size
  clear h0 hn hl
  go_quiet (fail)
  have HD2 : Hid (type_of% (HDB.out.drew nq)) := HDB.out.drew nq
  go_wp2_with fail
  refine (E_calls 14 _).mono ?_
  rintro e w1 ⟨rfl, hb1⟩
  have HD1 : Hid (type_of% (HD2.out.keep hb1)) := HD2.out.keep hb1
  obtain ⟨b0, b1, y0, y1⟩ := cell_two HD1.out.res
  have hs2 := lt_of_get HD1.out.res
  clear hb1
  go_wp2
  refine bodyPost_ret (v := .agg #[.int .i64 14, .slice none 0 0]) (by simp [results, Tryz.results85, go_sem, b0, b1]) rfl ?_
  exact ⟨_, _, rfl, places_nil _, Below.lay HD1.out.below _ _⟩

set_option maxRecDepth 100000 in
set_option maxHeartbeats 4000000 in
theorem dc_c (fb fof : Nat) (uo wo : Option Addr) (n fc tl tc wl wc : Nat) (y : Int) (w : World) (h0 : w.cell? ⟨fb, fof, none⟩ = some (.int .i64 0)) (hn : w.cell? ⟨fb, fof + n, none⟩ = some (.int .i64 y)) (hl : fb < w.heap.size) (hm : n < maxLen) (hy : y ≠ (tl : Int)) :
    Calls Tryz.prog 85 #[.agg #[.slice (some ⟨fb, fof, none⟩) (n + 1) fc, .slice uo tl tc, .slice wo wl wc]] w (DocAns w (14, [])) := by
  unfold maxLen at hm
  have e1 : (0 : Int) < ((n + 1 : Nat) : Int) := by omega
  have e2 : IntKind.i64.wrap (((n + 1 : Nat) : Int) - 1) = (n : Int) := by rw [IntKind.wrap_i64] <;> omega
  have e2' : IntKind.i64.wrap ((n : Int) + 1 - 1) = (n : Int) := by rw [IntKind.wrap_i64] <;> omega
  have e3 : ¬ (n : Int) < 0 := by omega
  have e4 : (n : Int) < (n : Int) + 1 := by omega
  have e5 : (0 : Int) ≤ (n : Int) := by omega
  have HDB : Hid (type_of% (DB.made w (.slice (some ⟨fb, fof, none⟩) (n + 1) fc) (.slice uo tl tc) (.slice wo wl wc))) := DB.made w (.slice (some ⟨fb, fof, none⟩) (n + 1) fc) (.slice uo tl tc) (.slice wo wl wc)
  go_enter Tryz.func85, Tryz.ntmps85
  go_wp2_with fail
  generalize hW : (w.alloc (.cells #[.slice (some ⟨fb, fof, none⟩) (n + 1) fc, .slice uo tl tc, .slice wo wl wc] 55)).alloc (.cells #[.int .i64 0, .slice none 0 0] 51) = W0 at *
  clear hW
  obtain ⟨c0, c1, c2⟩ := box3 HDB.out.box
  have cs := lt_of_get HDB.out.box
  have q0 := (HDB.out.below.cell (p := ⟨fb, fof, none⟩) hl).trans h0
  have q1 := (HDB.out.below.cell (p := ⟨fb, fof + n, none⟩) hl).trans hn
  have ql : fb < W0.heap.size := Nat.lt_of_lt_of_le hl HDB.out.below.size
  clear h0 hn hl
  go_quiet (fail)
  have HD2 : Hid (type_of% (HDB.out.drew nq)) := HDB.out.drew nq
  go_wp2_with fail
  refine (E_calls 14 _).mono ?_
  rintro e w1 ⟨rfl, hb1⟩
  have HD1 : Hid (type_of% (HD2.out.keep hb1)) := HD2.out.keep hb1
  obtain ⟨b0, b1, y0, y1⟩ := cell_two HD1.out.res
  have hs2 := lt_of_get HD1.out.res
  clear hb1
  go_wp2
  refine bodyPost_ret (v := .agg #[.int .i64 14, .slice none 0 0]) (by simp [results, Tryz.results85, go_sem, b0, b1]) rfl ?_
  exact ⟨_, _, rfl, places_nil _, Below.lay HD1.out.below _ _⟩

set_option maxRecDepth 100000 in
set_option maxHeartbeats 4000000 in
theorem dc_d (fb fof : Nat) (uo wo : Option Addr) (n fc tl tc wl wc : Nat) (w : World) (h0 : w.cell? ⟨fb, fof, none⟩ = some (.int .i64 0)) (hn : w.cell? ⟨fb, fof + n, none⟩ = some (.int .i64 tl)) (hl : fb < w.heap.size) (hm : n < maxLen) (hw : (wl : Int) ≠ (tl : Int)) :
    Calls Tryz.prog 85 #[.agg #[.slice (some ⟨fb, fof, none⟩) (n + 1) fc, .slice uo tl tc, .slice wo wl wc]] w (DocAns w (14, [])) := by
  unfold maxLen at hm
  have e1 : (0 : Int) < ((n + 1 : Nat) : Int) := by omega
  have e2 : IntKind.i64.wrap (((n + 1 : Nat) : Int) - 1) = (n : Int) := by rw [IntKind.wrap_i64] <;> omega
  have e2' : IntKind.i64.wrap ((n : Int) + 1 - 1) = (n : Int) := by rw [IntKind.wrap_i64] <;> omega
  have e3 : ¬ (n : Int) < 0 := by omega
  have e4 : (n : Int) < (n : Int) + 1 := by omega
  have e5 : (0 : Int) ≤ (n : Int) := by omega
  have hw' : ((wl : Int) != (tl : Int)) = true := bne_iff_ne.2 hw
  have HDB : Hid (type_of% (DB.made w (.slice (some ⟨fb, fof, none⟩) (n + 1) fc) (.slice uo tl tc) (.slice wo wl wc))) := DB.made w (.slice (some ⟨fb, fof, none⟩) (n + 1) fc) (.slice uo tl tc) (.slice wo wl wc)
  go_enter Tryz.func85, Tryz.ntmps85
  go_wp2_with fail
  generalize hW : (w.alloc (.cells #[.slice (some ⟨fb, fof, none⟩) (n + 1) fc, .slice uo tl tc, .slice wo wl wc] 55)).alloc (.cells #[.int .i64 0, .slice none 0 0] 51) = W0 at *
  clear hW
  obtain ⟨c0, c1, c2⟩ := box3 HDB.out.box
  have cs := lt_of_get HDB.out.box
  have q0 := (HDB.out.below.cell (p := ⟨fb, fof, none⟩) hl).trans h0
  have q1 := (HDB.out.below.cell (p := ⟨fb, fof + n, none⟩) hl).trans hn
  have ql : fb < W0.heap.size := Nat.lt_of_lt_of_le hl HDB.out.below.size
  clear h0 hn hl
  go_quiet (fail)
  have HD2 : Hid (type_of% (HDB.out.drew nq)) := HDB.out.drew nq
  go_wp2_with fail
  refine (E_calls 14 _).mono ?_
  rintro e w1 ⟨rfl, hb1⟩
  have HD1 : Hid (type_of% (HD2.out.keep hb1)) := HD2.out.keep hb1
  obtain ⟨b0, b1, y0, y1⟩ := cell_two HD1.out.res
  have hs2 := lt_of_get HD1.out.res
  clear hb1
  go_wp2
  refine bodyPost_ret (v := .agg #[.int .i64 14, .slice none 0 0]) (by simp [results, Tryz.results85, go_sem, b0, b1]) rfl ?_
  exact ⟨_, _, rfl, places_nil _, Below.lay HD1.out.below _ _⟩

set_option maxRecDepth 100000 in
set_option maxHeartbeats 4000000 in
theorem dc_e (fb fof : Nat) (uo wo : Option Addr) (n fc tl tc wc : Nat) (w : World) (h0 : w.cell? ⟨fb, fof, none⟩ = some (.int .i64 0)) (hn : w.cell? ⟨fb, fof + n, none⟩ = some (.int .i64 tl)) (hl : fb < w.heap.size) (hm : n < maxLen) (h65 : (65536 : Int) < (n : Int)) :
    Calls Tryz.prog 85 #[.agg #[.slice (some ⟨fb, fof, none⟩) (n + 1) fc, .slice uo tl tc, .slice wo tl wc]] w (DocAns w (9, [])) := by
  unfold maxLen at hm
  have e1 : (0 : Int) < ((n + 1 : Nat) : Int) := by omega
  have e2 : IntKind.i64.wrap (((n + 1 : Nat) : Int) - 1) = (n : Int) := by rw [IntKind.wrap_i64] <;> omega
  have e2' : IntKind.i64.wrap ((n : Int) + 1 - 1) = (n : Int) := by rw [IntKind.wrap_i64] <;> omega
  have e3 : ¬ (n : Int) < 0 := by omega
  have e4 : (n : Int) < (n : Int) + 1 := by omega
  have e5 : (0 : Int) ≤ (n : Int) := by omega
  have HDB : Hid (type_of% (DB.made w (.slice (some ⟨fb, fof, none⟩) (n + 1) fc) (.slice uo tl tc) (.slice wo tl wc))) := DB.made w (.slice (some ⟨fb, fof, none⟩) (n + 1) fc) (.slice uo tl tc) (.slice wo tl wc)
  go_enter Tryz.func85, Tryz.ntmps85
  go_wp2_with fail
  generalize hW : (w.alloc (.cells #[.slice (some ⟨fb, fof, none⟩) (n + 1) fc, .slice uo tl tc, .slice wo tl wc] 55)).alloc (.cells #[.int .i64 0, .slice none 0 0] 51) = W0 at *
  clear hW
  obtain ⟨c0, c1, c2⟩ := box3 HDB.out.box
  have cs := lt_of_get HDB.out.box
  have q0 := (HDB.out.below.cell (p := ⟨fb, fof, none⟩) hl).trans h0
  have q1 := (HDB.out.below.cell (p := ⟨fb, fof + n, none⟩) hl).trans hn
  have ql : fb < W0.heap.size := Nat.lt_of_lt_of_le hl HDB.out.below.size
  clear h0 hn hl
  go_quiet (fail)
  have HD2 : Hid (type_of% (HDB.out.drew nq)) := HDB.out.drew nq
  go_wp2_with fail
  refine (E_calls 9 _).mono ?_
  rintro e w1 ⟨rfl, hb1⟩
  have HD1 : Hid (type_of% (HD2.out.keep hb1)) := HD2.out.keep hb1
  obtain ⟨b0, b1, y0, y1⟩ := cell_two HD1.out.res
  have hs2 := lt_of_get HD1.out.res
  clear hb1
  go_wp2
  refine bodyPost_ret (v := .agg #[.int .i64 9, .slice none 0 0]) (by simp [results, Tryz.results85, go_sem, b0, b1]) rfl ?_
  exact ⟨_, _, rfl, places_nil _, Below.lay HD1.out.below _ _⟩

set_option maxRecDepth 100000 in
set_option maxHeartbeats 4000000 in
theorem dc_g (fb fof : Nat) (uo wo : Option Addr) (n fc tl tc wc : Nat) (w : World) (h0 : w.cell? ⟨fb, fof, none⟩ = some (.int .i64 0)) (hn : w.cell? ⟨fb, fof + n, none⟩ = some (.int .i64 tl)) (hl : fb < w.heap.size) (hm : n < maxLen) (h65 : ¬ (65536 : Int) < (n : Int)) (h26 : (262144 : Int) < (tl : Int)) :
    Calls Tryz.prog 85 #[.agg #[.slice (some ⟨fb, fof, none⟩) (n + 1) fc, .slice uo tl tc, .slice wo tl wc]] w (DocAns w (9, [])) := by
  unfold maxLen at hm
  have e1 : (0 : Int) < ((n + 1 : Nat) : Int) := by omega
  have e2 : IntKind.i64.wrap (((n + 1 : Nat) : Int) - 1) = (n : Int) := by rw [IntKind.wrap_i64] <;> omega
  have e2' : IntKind.i64.wrap ((n : Int) + 1 - 1) = (n : Int) := by rw [IntKind.wrap_i64] <;> omega
  have e3 : ¬ (n : Int) < 0 := by omega
  have e4 : (n : Int) < (n : Int) + 1 := by omega
  have e5 : (0 : Int) ≤ (n : Int) := by omega
  have HDB : Hid (type_of% (DB.made w (.slice (some ⟨fb, fof, none⟩) (n + 1) fc) (.slice uo tl tc) (.slice wo tl wc))) := DB.made w (.slice (some ⟨fb, fof, none⟩) (n + 1) fc) (.slice uo tl tc) (.slice wo tl wc)
  go_enter Tryz.func85, Tryz.ntmps85
  go_wp2_with fail
  generalize hW : (w.alloc (.cells #[.slice (some ⟨fb, fof, none⟩) (n + 1) fc, .slice uo tl tc, .slice wo tl wc] 55)).alloc (.cells #[.int .i64 0, .slice none 0 0] 51) = W0 at *
  clear hW
  obtain ⟨c0, c1, c2⟩ := box3 HDB.out.box
  have cs := lt_of_get HDB.out.box
  have q0 := (HDB.out.below.cell (p := ⟨fb, fof, none⟩) hl).trans h0
  have q1 := (HDB.out.below.cell (p := ⟨fb, fof + n, none⟩) hl).trans hn
  have ql : fb < W0.heap.size := Nat.lt_of_lt_of_le hl HDB.out.below.size
  clear h0 hn hl
  go_quiet (fail)
  have HD2 : Hid (type_of% (HDB.out.drew nq)) := HDB.out.drew nq
  go_wp2_with fail
  refine (E_calls 9 _).mono ?_
  rintro e w1 ⟨rfl, hb1⟩
  have HD1 : Hid (type_of% (HD2.out.keep hb1)) := HD2.out.keep hb1
  obtain ⟨b0, b1, y0, y1⟩ := cell_two HD1.out.res
  have hs2 := lt_of_get HD1.out.res
  clear hb1
  go_wp2
  refine bodyPost_ret (v := .agg #[.int .i64 9, .slice none 0 0]) (by simp [results, Tryz.results85, go_sem, b0, b1]) rfl ?_
  exact ⟨_, _, rfl, places_nil _, Below.lay HD1.out.below _ _⟩
end Go.Proofs.YtbaahjppofbdlaaGreatDoor
