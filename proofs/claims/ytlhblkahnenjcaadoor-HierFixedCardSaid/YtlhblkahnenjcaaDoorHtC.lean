/- hier.Turn at a hierarchy that is not in form; what HierTurns leans on. -/
import Derived.Test.YtlhblkahnenjcaaDoorHsF
import Derived.Test.YtlhblkahnenjcaaDoorHrZ
import Derived.Test.YtlhblkahnenjcaaDoorHtB
namespace Go.Proofs.YtlhblkahnenjcaaDoor.Hi
open Go.RowKit Go.Extern Go.Shelf

attribute [local go_sem] Oper.semAt_some

set_option maxRecDepth 100000 in
set_option maxHeartbeats 4000000 in
theorem turn_bad (v : HV) (h : Hr) (w : World) (hH : HasH w v h) (hb1 : h.up.length ≤ 1152921504606846976) (hb2 : h.dn.length ≤ 1152921504606846976) (hb3 : h.node.length ≤ 1152921504606846976) (hc : chk h ≠ (0, [])) :
    Calls Tryd.prog 12 #[hvl v h] w fun e w' => ∃ T x, e = .returned (.tuple #[.agg #[.slice none 0 0, .slice none 0 0, .slice none 0 0, .slice none 0 0, .slice none 0 0], .iface T x]) ∧ Below w.heap.size w w' := by
  obtain ⟨z, hz⟩ : ∃ z, w.heap.size = z := ⟨_, rfl⟩
  obtain ⟨W0, hW0⟩ : ∃ W0, (w.alloc (.cells (cellsH v h) 31)).alloc (.cells #[.slice none 0 0, .slice none 0 0, .slice none 0 0, .slice none 0 0, .slice none 0 0] 31) = W0 := ⟨_, rfl⟩
  have hB0 : Below w.heap.size w W0 := by rw [← hW0]; exact ((Below.refl _ w).alloc (Nat.le_refl _) _).alloc (by simp) _
  have h0 : W0.heap[z]? = some (.cells (cellsH v h) 31) := by
    rw [← hW0, ← hz]; exact (Below.heap_alloc _ _ _ (by simp)).trans (heap_newW _ _)
  have h1 : W0.heap[z + 1]? = some (.cells #[.slice none 0 0, .slice none 0 0, .slice none 0 0, .slice none 0 0, .slice none 0 0] 31) := by
    have g := heap_newW (w.alloc (.cells (cellsH v h) 31)) (.cells #[.slice none 0 0, .slice none 0 0, .slice none 0 0, .slice none 0 0, .slice none 0 0] 31)
    rw [World.size_alloc, hW0, hz] at g
    exact g
  have HB0 : Hid (∀ wx, Below W0.heap.size W0 wx → Below w.heap.size w wx ∧ wx.heap[z + 1]? = some (.cells #[.slice none 0 0, .slice none 0 0, .slice none 0 0, .slice none 0 0, .slice none 0 0] 31)) := fun wx hx => ⟨hB0.trans (hx.mono hB0.size), (hx.block _ (some_lt h1)).trans h1⟩
  have HCK : Hid (Calls Tryd.prog 9 #[hvl v h] W0 fun e w' => ∃ u, e = .returned u ∧ IsTold w' (chk h) u ∧ Below W0.heap.size W0 w') := check_calls v h W0 (hH.keep hB0) hb1 hb2 hb3
  have HW0 : Hid ((w.alloc (.cells (cellsH v h) 31)).alloc (.cells #[.slice none 0 0, .slice none 0 0, .slice none 0 0, .slice none 0 0, .slice none 0 0] 31) = W0) := hW0
  have HC : Hid (chk h ≠ (0, [])) := hc
  have HZZ : Hid (w.heap.size = z) := hz
  obtain ⟨a0, a1, a2, a3, a4⟩ := five_cells h0
  clear hW0 h0 h1 hB0 hH hc
  unfold cellsH at HW0
  unfold hvl at HCK ⊢
  go_enter Tryd.func12, Tryd.ntmps12
  go_upto_region 1 with fail
  rw [HW0.out]
  go_wp2_with fail
  refine HCK.out.mono ?_
  rintro e y0 ⟨u, rfl, ht, hy⟩
  obtain ⟨tt, xx, hu1, _⟩ := isTold_some ht HC.out
  subst hu1
  have Y0 : Hid (Below W0.heap.size W0 y0) := hy
  obtain ⟨z0, z1, z2, z3, z4⟩ := five_cells (HB0.out y0 hy).2
  obtain ⟨f0, f1, f2, f3, f4⟩ := five_free (HB0.out y0 hy).2
  clear hy ht a0 a1 a2 a3 a4
  go_wp2
  have hS := set_five (HB0.out _ Y0.out).2 (.slice none 0 0) (.slice none 0 0) (.slice none 0 0) (.slice none 0 0) (.slice none 0 0)
  have hbb : Below w.heap.size w (((((y0.setCell ⟨z + 1, 0, none⟩ (.slice none 0 0)).setCell ⟨z + 1, 1, none⟩ (.slice none 0 0)).setCell ⟨z + 1, 2, none⟩ (.slice none 0 0)).setCell ⟨z + 1, 3, none⟩ (.slice none 0 0)).setCell ⟨z + 1, 4, none⟩ (.slice none 0 0)) := (((((HB0.out _ Y0.out).1.setCell (by rw [HZZ.out]; exact Nat.le_succ _) _).setCell (by rw [HZZ.out]; exact Nat.le_succ _) _).setCell (by rw [HZZ.out]; exact Nat.le_succ _) _).setCell (by rw [HZZ.out]; exact Nat.le_succ _) _).setCell (by rw [HZZ.out]; exact Nat.le_succ _) _
  obtain ⟨c0, c1, c2, c3, c4⟩ := five_cells hS
  refine bodyPost_ret (v := .tuple #[.agg #[.slice none 0 0, .slice none 0 0, .slice none 0 0, .slice none 0 0, .slice none 0 0], .iface tt xx]) (by simp [results, Tryd.results12, go_sem, c0, c1, c2, c3, c4]) rfl ⟨tt, xx, rfl, hbb⟩

theorem turn_ok {v : HV} {h : Hr} {w : World} (hH : HasH w v h) (hc : chk h = (0, [])) :
    Calls Tryd.prog 12 #[hvl v h] w fun e w' => ∃ u, e = .returned (.tuple #[hvl u (turnH h), .nilIface]) ∧ HasH w' u (turnH h) ∧ OwnH w' w.heap.size u (turnH h) ∧ Below w.heap.size w w' := by
  obtain ⟨k1, k2, k3, k4, k5, k6, k7, k8⟩ := chk_ok hc
  refine (turn_good v h w hH hc).mono ?_
  rintro e w' ⟨u, rfl, ho, hb⟩
  refine ⟨u, rfl, ⟨ws_of_own ho.node hH.node.ok, ws_of_own ho.upF hH.dnF.ok, ls_of_own ho.up fun l hl => ?_, ws_of_own ho.dnF hH.upF.ok, ls_of_own ho.dn fun l hl => ?_⟩, ho, hb⟩
  · obtain ⟨l0, h0, rfl⟩ := List.mem_map.1 hl
    exact turnL_ok k2 (fun hp => kids_mem hc (Or.inr h0) hp) (hH.dn.ok _ h0)
  · obtain ⟨l0, h0, rfl⟩ := List.mem_map.1 hl
    exact turnL_ok k2 (fun hp => kids_mem hc (Or.inl h0) hp) (hH.up.ok _ h0)
/-- the link of a number, turned about. -/
def other (h : Hr) (i : Nat) : Nat := if h.up.length ≤ i then i - h.up.length else i + h.dn.length
theorem other_lt {h : Hr} {i : Nat} (hi : i < h.up.length + h.dn.length) : other h i < h.up.length + h.dn.length := by unfold other; split <;> omega
theorem other_sd {h : Hr} (hc : chk h = (0, [])) {i : Nat} (hi : i < h.up.length + h.dn.length) : sd (stds (turnH h)) (other h i) = flipS h.up.length h.dn.length (sd (stds h) i) := by
  obtain ⟨k1, k2, k3, k4, k5, k6, k7, k8⟩ := chk_ok hc
  unfold other
  split
  · rw [sd_turn_lo k5 k6 (by omega), show h.up.length + (i - h.up.length) = i by omega]
  · rw [Nat.add_comm, sd_turn_hi k5 k6 (by omega)]
theorem graph_ok {v : HV} {h : Hr} {w : World} (hH : HasH w v h) (hc : chk h = (0, [])) :
    Calls Tryd.prog 16 #[hvl v h] w fun e w' => ∃ lo k c, e = .returned (.tuple #[.agg #[.int .i64 (h.node.length : Int), .slice lo k c], .nilIface]) ∧ HasArcs w' (.slice lo k c) (sortE (gArcs h (stds h))) ∧ Below w.heap.size w w' := by
  obtain ⟨k1, k2, k3, k4, k5, k6, k7, k8⟩ := chk_ok hc
  refine (graph_calls v h w hH (by omega) (by omega) (by omega)).mono ?_
  rintro e w' ⟨N, lo, k, c, u, L, rfl, hb, hA, hh⟩
  rcases hh with ⟨_, rfl, rfl, rfl⟩ | ⟨hn, _⟩
  · exact ⟨lo, k, c, rfl, hA, hb⟩
  · exact absurd hc hn
/-- a box that is made and filled. -/
theorem box_five (W : World) (x0 x1 x2 x3 x4 : Value) (T : TypeId) (o : Array Value) (ho : ∃ a b c d e, o = #[a, b, c, d, e]) :
    Below W.heap.size W ((((((W.alloc (.cells o T)).setCell ⟨W.heap.size, 0, none⟩ x0).setCell ⟨W.heap.size, 1, none⟩ x1).setCell ⟨W.heap.size, 2, none⟩ x2).setCell ⟨W.heap.size, 3, none⟩ x3).setCell ⟨W.heap.size, 4, none⟩ x4) ∧ ((((((W.alloc (.cells o T)).setCell ⟨W.heap.size, 0, none⟩ x0).setCell ⟨W.heap.size, 1, none⟩ x1).setCell ⟨W.heap.size, 2, none⟩ x2).setCell ⟨W.heap.size, 3, none⟩ x3).setCell ⟨W.heap.size, 4, none⟩ x4).heap[W.heap.size]? = some (.cells #[x0, x1, x2, x3, x4] T) := by
  obtain ⟨a, b, c, d, e, rfl⟩ := ho
  refine ⟨?_, set_five (heap_newW _ _) _ _ _ _ _⟩
  exact ((((((Below.refl _ _).alloc (Nat.le_refl _) _).setCell (Nat.le_refl _) _).setCell (Nat.le_refl _) _).setCell (Nat.le_refl _) _).setCell (Nat.le_refl _) _).setCell (Nat.le_refl _) _
theorem box_two (W : World) (x0 x1 : Value) (T : TypeId) (o : Array Value) (ho : ∃ a b, o = #[a, b]) :
    Below W.heap.size W (((W.alloc (.cells o T)).setCell ⟨W.heap.size, 0, none⟩ x0).setCell ⟨W.heap.size, 1, none⟩ x1) ∧ (((W.alloc (.cells o T)).setCell ⟨W.heap.size, 0, none⟩ x0).setCell ⟨W.heap.size, 1, none⟩ x1).heap[W.heap.size]? = some (.cells #[x0, x1] T) := by
  obtain ⟨a, b, rfl⟩ := ho
  exact ⟨(((Below.refl _ _).alloc (Nat.le_refl _) _).setCell (Nat.le_refl _) _).setCell (Nat.le_refl _) _, set_two (heap_newW _ _) _ _⟩
/-- a list of arcs doesn't lie in a graph's box. -/
theorem arcs_off {w : World} {lo : Option Addr} {k c : Nat} {L : List (Int × Int × Int)} (h : HasArcs w (.slice lo k c) L) (hne : L ≠ []) {b : Nat} {N : Int} {lo' : Option Addr} {k' c' : Nat} {T : TypeId} (hb : w.heap[b]? = some (.cells #[.int .i64 N, .slice lo' k' c'] T)) : ∀ a, lo = some a → a.block ≠ b := by
  intro a ea e
  obtain ⟨x, r, rfl⟩ : ∃ x r, L = x :: r := by
    cases L with
    | nil => exact absurd rfl hne
    | cons x r => exact ⟨x, r, rfl⟩
  obtain ⟨b2, off, e2, _, h0, h1, _⟩ := h.at (k := 0) (a := x) rfl
  subst ea
  obtain rfl : a = ⟨b2, off, none⟩ := Option.some.inj e2
  simp at e
  subst e
  simp only [World.cell?, hb] at h1
  rcases off with _ | off
  · simp at h1
  · simp at h1
theorem arcs_set2 {w : World} {lo : Option Addr} {k c : Nat} {L : List (Int × Int × Int)} (h : HasArcs w (.slice lo k c) L) {b : Nat} {N : Int} {lo' : Option Addr} {k' c' : Nat} {T : TypeId} (hb : w.heap[b]? = some (.cells #[.int .i64 N, .slice lo' k' c'] T)) (x y : Value) : HasArcs ((w.setCell ⟨b, 0, none⟩ x).setCell ⟨b, 1, none⟩ y) (.slice lo k c) L := by
  have hs : w.heap.size ≤ ((w.setCell ⟨b, 0, none⟩ x).setCell ⟨b, 1, none⟩ y).heap.size := by simp [World.setCell]
  by_cases hne : L = []
  · subst hne
    obtain ⟨ao, cap, e, _⟩ := h
    exact ⟨ao, cap, e, fun j a hj => by simp at hj⟩
  · exact arcs_far h hs fun a ea => (Below.heap_setCell _ _ _ _ (arcs_off h hne hb a ea)).trans (Below.heap_setCell _ _ _ _ (arcs_off h hne hb a ea))
/-- two graphs in their boxes. -/
structure GP (g p n : Nat) (lo : Option Addr) (k c : Nat) (lp : Option Addr) (kp cp : Nat) (A B : List (Int × Int × Int)) (w W : World) : Prop where
  bg : W.heap[g]? = some (.cells #[.int .i64 (n : Int), .slice lo k c] 55)
  bp : W.heap[p]? = some (.cells #[.int .i64 (n : Int), .slice lp kp cp] 55)
  ag : HasArcs W (.slice lo k c) A
  ap : HasArcs W (.slice lp kp cp) B
  bel : Below w.heap.size w W
  ne : g < p
  hi : w.heap.size ≤ g
theorem GP.keep {g p n k c kp cp : Nat} {lo lp : Option Addr} {A B : List (Int × Int × Int)} {w W W' : World} (h : GP g p n lo k c lp kp cp A B w W) (hb : Below W.heap.size W W') : GP g p n lo k c lp kp cp A B w W' :=
  ⟨(hb.block _ (some_lt h.bg)).trans h.bg, (hb.block _ (some_lt h.bp)).trans h.bp, h.ag.keep hb, h.ap.keep hb, h.bel.trans (hb.mono h.bel.size), h.ne, h.hi⟩
theorem GP.store {g p n k c kp cp k2 c2 : Nat} {lo lp lo2 : Option Addr} {A B A2 : List (Int × Int × Int)} {w W : World} (h : GP g p n lo k c lp kp cp A B w W) (h2 : HasArcs W (.slice lo2 k2 c2) A2) : GP g p n lo2 k2 c2 lp kp cp A2 B w ((W.setCell ⟨g, 0, none⟩ (.int .i64 (n : Int))).setCell ⟨g, 1, none⟩ (.slice lo2 k2 c2)) :=
  ⟨set_two h.bg _ _, ((Below.heap_setCell _ _ _ _ (by have := h.ne; show p ≠ g; omega)).trans (Below.heap_setCell _ _ _ _ (by have := h.ne; show p ≠ g; omega))).trans h.bp, arcs_set2 h2 h.bg _ _, arcs_set2 h.ap h.bg _ _, (h.bel.setCell h.hi _).setCell h.hi _, h.ne, h.hi⟩
theorem two_cells {w : World} {b : Nat} {T : TypeId} {a0 a1 : Value} (h : w.heap[b]? = some (.cells #[a0, a1] T)) : (w.cell? ⟨b, 0, none⟩ = some a0 ∧ w.cell? ⟨b, 1, none⟩ = some a1) ∧ w.frozen? ⟨b, 0, none⟩ = false ∧ w.frozen? ⟨b, 1, none⟩ = false := by simp [World.cell?, World.frozen?, h]
end Go.Proofs.YtlhblkahnenjcaaDoor.Hi
