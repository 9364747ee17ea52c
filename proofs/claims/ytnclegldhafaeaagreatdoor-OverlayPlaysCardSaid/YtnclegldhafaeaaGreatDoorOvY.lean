/- an overlay's Remove. -/
import Derived.Test.YtnclegldhafaeaaGreatDoorOvX
import Derived.BigRegion
namespace Go.Proofs.YtnclegldhafaeaaGreatDoor
open Go.RowKit Go.Extern Go.Sort

attribute [local go_sem] Oper.semAt_some
section
variable {w w' : World} {PX : Nat → Option Obj} {B pb ab n : Nat} {sb : Bool → Nat} {bs : List Bool} {R : Bool → Nat → Rw} {nodes arcs : Int}
theorem bC_set (bs : List Bool) (m : Nat) (b : Bool) : (bC bs).setIfInBounds m (.bool b) = bC (bs.set m b) := by
  unfold bC
  rw [List.setIfInBounds_toArray, List.map_set]
theorem OvMem.setFlag (h : OvMem PX w B pb ab sb n bs R nodes arcs) (m : Nat) (b : Bool) : OvMem PX (w.setCell ⟨ab, m, none⟩ (.bool b)) B pb ab sb n (bs.set m b) R nodes arcs ∧ Below B w (w.setCell ⟨ab, m, none⟩ (.bool b)) := by
  refine ⟨⟨(heap_setCell_other _ _ _ _ (h.ne false).2.2).trans h.box, ?_, fun s => (heap_setCell_other _ _ _ _ (Ne.symm (h.ne s).1)).trans (h.row s), by rw [List.length_set]; exact h.bl, h.big, fun s u hu => own_set (h.own s u hu) (h.far s hu).2.1 _, h.low, h.two, fun X o hX => ⟨(heap_setCell_other _ _ _ _ (h.prot X o hX).2.2.1).trans (h.prot X o hX).1, (h.prot X o hX).2⟩, h.apart⟩, ?_⟩
  · rw [hsc_same _ h.al, bC_set]
  · exact (Below.refl B w).setCell (p := ⟨ab, m, none⟩) h.low.2.1 _
theorem OvMem.setNodes (h : OvMem PX w B pb ab sb n bs R nodes arcs) (a : Int) : OvMem PX (w.setCell ⟨pb, 3, none⟩ (.int .i64 a)) B pb ab sb n bs R a arcs ∧ Below B w (w.setCell ⟨pb, 3, none⟩ (.int .i64 a)) := by
  refine ⟨⟨?_, (heap_setCell_other _ _ _ _ (Ne.symm (h.ne false).2.2)).trans h.al, fun s => (heap_setCell_other _ _ _ _ (Ne.symm (h.ne s).2.1)).trans (h.row s), h.bl, h.big, fun s u hu => own_set (h.own s u hu) (h.far s hu).1 _, h.low, h.two, fun X o hX => ⟨(heap_setCell_other _ _ _ _ (h.prot X o hX).2.1).trans (h.prot X o hX).1, (h.prot X o hX).2⟩, h.apart⟩, ?_⟩
  · rw [hsc_same _ h.box]
    rfl
  · exact (Below.refl B w).setCell (p := ⟨pb, 3, none⟩) h.low.1 _
/-- a row that holds nothing. -/
def nilR : Rw := (.slice none 0 0, [], 0)
theorem OvMem.clear (h : OvMem PX w B pb ab sb n bs R nodes arcs) (s : Bool) {u : Nat} (hu : u < n) : OvMem PX ((w.setCell ⟨sb s, u * 2, none⟩ (.slice none 0 0)).setCell ⟨sb s, u * 2 + 1, none⟩ (.int .i64 0)) B pb ab sb n bs (updS R s u nilR) nodes arcs ∧ Below B w ((w.setCell ⟨sb s, u * 2, none⟩ (.slice none 0 0)).setCell ⟨sb s, u * 2 + 1, none⟩ (.int .i64 0)) := by
  refine h.moved (s := s) hu (v' := .slice none 0 0) (gn' := 0) (l' := []) ⟨rfl, rfl, rfl, by simp, fun k hk h1 h2 => ?_, ?_, fun k hk => by cases hk⟩ (World.ownsRow_nil _ _ _ _)
  · rw [heap_setCell_other _ _ _ _ h1, heap_setCell_other _ _ _ _ h1]
  · rw [hsc_same _ (hsc_same _ (h.row s))]
    rfl
theorem OvMem.rowCells (h : OvMem PX w B pb ab sb n bs R nodes arcs) (s : Bool) {u : Nat} (hu : u < n) : w.cell? ⟨sb s, u * 2, none⟩ = some (R s u).1 ∧ w.cell? ⟨sb s, u * 2 + 1, none⟩ = some (.int .i64 ((R s u).2.2 : Nat)) ∧ sb s < w.heap.size ∧ w.frozen? ⟨sb s, u * 2, none⟩ = false ∧ w.frozen? ⟨sb s, u * 2 + 1, none⟩ = false :=
  ⟨by simp [World.cell?, h.row s, (h.rc s hu).1], by simp [World.cell?, h.row s, (h.rc s hu).2], lt_of_get (h.row s), by simp [World.frozen?, h.row s], by simp [World.frozen?, h.row s]⟩

set_option maxHeartbeats 1000000 in
theorem remove_err (h : OvMem PX w B pb ab sb n bs R nodes arcs) (x : Int) (hx : aliveB n bs x = false) : Calls Tryz.prog 18 #[.pointer (some ⟨pb, 0, none⟩), .int .i64 x] w fun e w' => e = .returned (.iface 73 (.int .i64 7)) ∧ w' = w := by
  have ha := alive_calls h x
  rw [hx] at ha
  have HA : Hid (type_of% ha) := ha
  clear h ha
  go_enter Tryz.func18, Tryz.ntmps18
  go_wp2_with fail
  refine HA.out.mono ?_
  rintro e w1 ⟨rfl, hw1⟩
  subst hw1
  go_wp2
  go_ret
  exact ⟨rfl, rfl⟩

set_option maxRecDepth 100000 in
set_option maxHeartbeats 4000000 in
theorem remove_calls (h : OvMem PX w B pb ab sb n bs R nodes arcs) (hk : RowsOk n R) (u : Nat) (hu : u < n) (hx : aliveB n bs (u : Int) = true) (hlo : ∀ s, ∀ a ∈ (R s u).2.1, a.1 ≠ (u : Int))
    (hpre : ∀ s s', s ≠ s' → ∀ a ∈ livH (bs.set u false) (R s u).2.1, (R s' a.1.toNat).2.2 + 1 ≤ (R s' a.1.toNat).2.1.length) (ha : -4611686018427000000 ≤ arcs ∧ arcs ≤ 4611686018427000000) (hnd : -4611686018427387904 ≤ nodes ∧ nodes ≤ 4611686018427387904) :
    Calls Tryz.prog 18 #[.pointer (some ⟨pb, 0, none⟩), .int .i64 (u : Int)] w fun e w' => e = .returned .nilIface ∧ ∃ R1 R2, LostR n (bs.set u false) true (R false u).2.1 R R1 ∧ LostR n (bs.set u false) false (R true u).2.1 R1 R2 ∧ RowsOk n R2 ∧ OvMem PX w' B pb ab sb n (bs.set u false) (updS (updS R2 false u nilR) true u nilR) (nodes - 1) (arcs - ((livH (bs.set u false) (R false u).2.1).length : Int) - ((livH (bs.set u false) (R true u).2.1).length : Int)) ∧ Below B w w' := by
  have hal := alive_calls h (u : Int)
  rw [hx] at hal
  have HA : Hid (type_of% hal) := hal
  obtain ⟨c0, c1, c2, c3, c4, cs⟩ := h.cells
  have f0 := h.flag hu
  have fz : w.frozen? ⟨ab, u, none⟩ = false := by simp [World.frozen?, h.al]
  have l0 : ab < w.heap.size := lt_of_get h.al
  have i1 : (u : Int) < (n : Int) := by omega
  have i2 : (0 : Int) ≤ (u : Int) := by omega
  have i5 : IntKind.i64.wrap (nodes - 1) = nodes - 1 := by rw [IntKind.wrap_i64] <;> omega
  have n1 := (h.ne false).2.2
  have fp : w.frozen? ⟨pb, 3, none⟩ = false := by simp [World.frozen?, h.box]
  have s1 := h.setFlag u false
  have s2 := s1.1.setNodes (nodes - 1)
  have HW : Hid (∀ W, (w.setCell ⟨ab, u, none⟩ (.bool false)).setCell ⟨pb, 3, none⟩ (.int .i64 (nodes - 1)) = W → OvMem PX W B pb ab sb n (bs.set u false) R (nodes - 1) arcs ∧ Below B w W) := fun W e => by
    subst e
    exact ⟨s2.1, s1.2.trans s2.2⟩
  have n2 := (h.ne false).2.1
  have n3 := (h.ne true).2.1
  have n4 := h.two
  have n2' := Ne.symm n2
  have n3' := Ne.symm n3
  have n4' := Ne.symm n4
  have HQ : Hid (RowsOk n R ∧ u < n ∧ (∀ s, ∀ a ∈ (R s u).2.1, a.1 ≠ (u : Int)) ∧ (∀ s s', s ≠ s' → ∀ a ∈ livH (bs.set u false) (R s u).2.1, (R s' a.1.toNat).2.2 + 1 ≤ (R s' a.1.toNat).2.1.length) ∧ (-4611686018427000000 ≤ arcs ∧ arcs ≤ 4611686018427000000) ∧ (livH (bs.set u false) (R false u).2.1).length ≤ 65536) := ⟨hk, hu, hlo, hpre, ha, Nat.le_trans (livH_len _ _) (h.len hk false hu)⟩
  clear hal h s1 s2 hk hu hlo hpre ha hnd hx
  go_enter Tryz.func18, Tryz.ntmps18
  go_wp2_with fail
  refine HA.out.mono ?_
  rintro e w1 ⟨rfl, hw1⟩
  subst hw1
  go_wp2_with fail
  generalize hW0 : (w1.setCell ⟨ab, u, none⟩ (.bool false)).setCell ⟨pb, 3, none⟩ (.int .i64 (nodes - 1)) = W0
  obtain ⟨M0, b0⟩ := HW.out W0 hW0
  clear hW0 HW c0 c1 c2 c3 c4 cs f0 fz l0 fp HA i5
  have hl1 := loseArcs_calls (M0.keep (Below.refl _ W0).drew) HQ.out.1 false true (by simp) u HQ.out.2.1 (HQ.out.2.2.2.1 false true (by simp)) (by have := HQ.out.2.2.2.2.1; omega)
  have HL1 : Hid (type_of% hl1) := hl1
  have HB0 : Hid (Below B w1 W0) := b0
  obtain ⟨c0, c1, c2, c3, c4, cs⟩ := M0.cells
  obtain ⟨r0, r1, rl, _, _⟩ := M0.rowCells false HQ.out.2.1
  clear M0 b0 hl1
  go_region_held3 (fun w' => w'.cell? ⟨pb, 1, none⟩ = some (.slice (some ⟨sb false, 0, none⟩) n n) ∧ w'.cell? ⟨pb, 2, none⟩ = some (.slice (some ⟨sb true, 0, none⟩) n n) ∧ w'.cell? ⟨sb false, u * 2, none⟩ = some (R false u).1 ∧ w'.cell? ⟨sb false, u * 2 + 1, none⟩ = some (.int .i64 ((R false u).2.2 : Nat))) (go_keep) (first
    | (go_at_call 38; refine HL1.out.mono ?_; rintro e y1 ⟨rfl, R1, M1, K1, L1, b1⟩; have Y1 : Hid (OvMem PX y1 B pb ab sb n (bs.set u false) R1 (nodes - 1) (arcs - ((livH (bs.set u false) (R false u).2.1).length : Int)) ∧ RowsOk n R1 ∧ LostR n (bs.set u false) true (R false u).2.1 R R1 ∧ Below B w1 y1) := ⟨M1, K1, L1, HB0.out.trans ((Below.refl B W0).drew.trans b1)⟩; have e1 : R1 false u = R false u := (L1 false u HQ.out.2.1).2 (fun h => by cases h.1); have z1 := M1.cells.2.1; have z2 := M1.cells.2.2.1; obtain ⟨z3, z4, _, _, _⟩ := M1.rowCells false HQ.out.2.1; rw [e1] at z3 z4; clear M1 K1 L1 b1))
  have ht : R1 true u = R true u := (Y1.out.2.2.1 true u HQ.out.2.1).2 (fun h => by
    obtain ⟨a, ha1, ha2⟩ := List.any_eq_true.1 h.2
    exact HQ.out.2.2.1 false a (livH_mem.1 ha1).1 (by simpa using ha2))
  have hf : ∀ j, j < n → R1 false j = R false j := fun j hj => (Y1.out.2.2.1 false j hj).2 (fun h => by cases h.1)
  have hl2 := loseArcs_calls (Y1.out.1.keep (Below.refl _ y1).drew) Y1.out.2.1 true false (by simp) u HQ.out.2.1 (fun a ha => by
    rw [ht] at ha
    have hn := HQ.out.1.node true u HQ.out.2.1 a (livH_mem.1 ha).1
    rw [hf a.1.toNat (by omega)]
    exact HQ.out.2.2.2.1 true false (by simp) a ha) (by have h1 := HQ.out.2.2.2.2.1; have h2 := HQ.out.2.2.2.2.2; omega)
  rw [ht] at hl2
  have HL2 : Hid (type_of% hl2) := hl2
  obtain ⟨q0, q1, ql, _, _⟩ := Y1.out.1.rowCells true HQ.out.2.1
  rw [ht] at q0 q1
  have ys : pb < y1.heap.size := Y1.out.1.cells.2.2.2.2.2
  clear c0 c1 c2 c3 c4 cs r0 r1 rl HL1 HB0 z3 z4 ht hf hl2
  go_wp2_with fail
  go_region_held3 (fun w' => w'.cell? ⟨pb, 1, none⟩ = some (.slice (some ⟨sb false, 0, none⟩) n n) ∧ w'.cell? ⟨pb, 2, none⟩ = some (.slice (some ⟨sb true, 0, none⟩) n n) ∧ w'.cell? ⟨sb true, u * 2, none⟩ = some (R true u).1 ∧ w'.cell? ⟨sb true, u * 2 + 1, none⟩ = some (.int .i64 ((R true u).2.2 : Nat))) (go_keep) (first
    | (go_at_call 38; refine HL2.out.mono ?_; rintro e y2 ⟨rfl, R2, M2, K2, L2, b2⟩; have Y2 : Hid (OvMem PX y2 B pb ab sb n (bs.set u false) R2 (nodes - 1) (arcs - ((livH (bs.set u false) (R false u).2.1).length : Int) - ((livH (bs.set u false) (R true u).2.1).length : Int)) ∧ RowsOk n R2 ∧ LostR n (bs.set u false) false (R true u).2.1 R1 R2 ∧ Below B w1 y2) := ⟨M2, K2, L2, Y1.out.2.2.2.trans ((Below.refl B y1).drew.trans b2)⟩; have ht : R1 true u = R true u := (Y1.out.2.2.1 true u HQ.out.2.1).2 (fun h => by obtain ⟨a, ha1, ha2⟩ := List.any_eq_true.1 h.2; exact HQ.out.2.2.1 false a (livH_mem.1 ha1).1 (by simpa using ha2)); have e2 : R2 true u = R true u := ((L2 true u HQ.out.2.1).2 (fun h => by cases h.1)).trans ht; have v1 := M2.cells.2.1; have v2 := M2.cells.2.2.1; obtain ⟨v3, v4, _, _, _⟩ := M2.rowCells true HQ.out.2.1; rw [e2] at v3 v4; clear M2 K2 L2 b2 ht e2))
  clear z1 z2 q0 q1 ql ys HL2 v3 v4
  obtain ⟨a0, a1, a2, a3, a4⟩ := Y2.out.1.rowCells false HQ.out.2.1
  obtain ⟨b0, b1, b2, b3, b4⟩ := Y2.out.1.rowCells true HQ.out.2.1
  have ys : pb < y2.heap.size := Y2.out.1.cells.2.2.2.2.2
  have hm1 := Y2.out.1.clear false HQ.out.2.1
  have hm2 := hm1.1.clear true HQ.out.2.1
  have HF : Hid (∀ W, (((y2.setCell ⟨sb false, u * 2, none⟩ (.slice none 0 0)).setCell ⟨sb false, u * 2 + 1, none⟩ (.int .i64 0)).setCell ⟨sb true, u * 2, none⟩ (.slice none 0 0)).setCell ⟨sb true, u * 2 + 1, none⟩ (.int .i64 0) = W → OvMem PX W B pb ab sb n (bs.set u false) (updS (updS R2 false u nilR) true u nilR) (nodes - 1) (arcs - ((livH (bs.set u false) (R false u).2.1).length : Int) - ((livH (bs.set u false) (R true u).2.1).length : Int)) ∧ Below B w1 W) := fun W e => by
    subst e
    exact ⟨hm2.1, Y2.out.2.2.2.trans (hm1.2.trans hm2.2)⟩
  clear hm1 hm2
  go_wp2_with fail
  generalize (R2 false u).1 = va at *
  generalize (R2 true u).1 = vb at *
  go_region_held3 (fun w' => w'.cell? ⟨pb, 1, none⟩ = some (.slice (some ⟨sb false, 0, none⟩) n n) ∧ w'.cell? ⟨pb, 2, none⟩ = some (.slice (some ⟨sb true, 0, none⟩) n n)) (go_keep) (first | fail)
  go_wp2
  go_ret
  obtain ⟨f1, f2⟩ := HF.out _ rfl
  exact ⟨rfl, R1, R2, Y1.out.2.2.1, Y2.out.2.2.1, Y2.out.2.1, f1.keep (Below.refl _ _).drew, f2.drew⟩
end
end Go.Proofs.YtnclegldhafaeaaGreatDoor
