/- viaductref03.Spare: a copy of a graph with spare room behind its list. -/
import Derived.Test.YtghbekpilhnkfabDoorGuQ
import Derived.Test.YtghbekpilhnkfabDoorDocCheck
import Derived.Test.YtghbekpilhnkfabDoorSameG
import Derived.Deep.RegionWith
import Derived.BigRegion
import Derived.Deep.CutBlock
namespace Go.Proofs.YtghbekpilhnkfabDoor
open Go.RowKit Go.Extern

attribute [local go_sem] Oper.semAt_some

theorem Tryd.elemQ : Tryd.prog.underlying 22 = some (.slice (Tryd.prog.elem 22)) := by kernel_rfl
theorem Tryd.sizeQ (w : World) : (sizeOf (Tryd.prog.elem 22)).run Tryd.prog w = .ok 3 w := by kernel_rfl
theorem slice_upto (b n lc i : Nat) (h : n ≤ lc) (hi : i ≤ n) (w : World) : (Instr.slice 22 (.slice (some ⟨b, 0, none⟩) n lc) none (some (.int .i64 (i : Int))) none).run Tryd.prog w = .ok (.slice (some ⟨b, 0, none⟩) i lc) w := by
  rw [run_slice_h (ht := Tryd.elemQ) (h0 := by omega) (h2 := by omega), Tryd.sizeQ]
  have e2 : (i : Int).toNat = i := by omega
  simp only [Result.andThen_ok, sliced, e2]
  simp [Addr.add]
/-- a list of arcs is appended to a row of one's own, whatever its length. -/
theorem wpList_append_arcs2 {w : World} {ops : Array Oper} {rest : List Oper} {o : Oper} {a : Act} {Q : Exit → Act → World → Prop} (hgd : o.guard = none) (s x : Operand)
    (ho : o.op = .call { callee := .builtin .append, args := #[s, x], argTypes := #[22, 22] })
    (base : Nat) (v : Value) (L : List (Int × Int × Int)) (hs : a.eval s = v) (hown : w.ownsRow base 42 3 v L.length (flatC L))
    (ao : Option Addr) (ac : Nat) (xs : List (Int × Int × Int)) (hx : a.eval x = .slice ao xs.length ac) (hl : HasArcs w (.slice ao xs.length ac) xs) (hno : ao = none → ac = 0)
    (hlen : (L.length + xs.length) * 24 ≤ 140737488355328) (hbase : base ≤ w.heap.size)
    (h : ∀ v' w', w'.ownsRow base 42 3 v' (L ++ xs).length (flatC (L ++ xs)) → w.grownBy w' v.ownBlock → wpList Tryd.prog ops Q rest (a.put o.dst v') w') : wpList Tryd.prog ops Q (o :: rest) a w := by
  obtain ⟨i0, hi, hz0, hz1, hz2⟩ : ∃ i, Tryd.prog.info? 42 = some i ∧ i.zero = some (.agg #[.int .i64 0, .int .i64 0, .int .i64 0]) ∧ i.size = 3 ∧ i.bytes = 24 := by
    have h := Tryd.infoC
    cases hi : Tryd.prog.info? 42 with
    | none => rw [hi] at h; cases h
    | some i => rw [hi] at h; simp at h; exact ⟨i, rfl, h.1, h.2.1, h.2.2⟩
  cases ao with
  | none =>
    have hc := hno rfl
    subst hc
    have hx0 : xs = [] := by
      cases xs with
      | nil => rfl
      | cons q r => obtain ⟨b, off, e, _⟩ := hl.at (k := 0) (a := q) rfl; cases e
    subst hx0
    refine wpList_append_own_none hgd s x 22 ho base 42 i0 3 Tryd.underlying22 hi v L.length (flatC L) hs hown hx ?_
    exact h v w (by simpa using hown) ⟨rfl, rfl, rfl, Nat.le_refl _, fun _ _ _ => rfl⟩
  | some ad =>
    refine wpList_append_own _ hgd s x 22 ho base 42 i0 _ 3 24 Tryd.underlying22 hi hz0 hz1 hz2 rfl (by decide) v L.length (flatC L) hs hown ad xs.length ac (flatC xs) hx (flatC_len xs) (flatC_at hl) (flatC_one xs) (by unfold maxLen; omega) (by omega) hbase ?_
    intro v' w' h1 h2 _
    exact h v' w' (by rw [List.length_append, flatC_append]; exact h1) h2
/-- the two arcs that mark the spare room. -/
def marks : List (Int × Int × Int) := [(41, 0, 0), (42, 0, 0)]
theorem below_new3 (w : World) (o : Obj) : Below w.heap.size w (w.alloc o) := (Below.refl _ w).alloc (Nat.le_refl _) _
theorem arcs_marks (w : World) (T : TypeId) : HasArcs (w.alloc (.cells #[.int .i64 41, .int .i64 0, .int .i64 0, .int .i64 42, .int .i64 0, .int .i64 0] T)) (.slice (some ⟨w.heap.size, 0, none⟩) 2 2) marks := by
  have h := heap_new w (.cells #[.int .i64 41, .int .i64 0, .int .i64 0, .int .i64 42, .int .i64 0, .int .i64 0] T)
  generalize w.alloc (.cells #[.int .i64 41, .int .i64 0, .int .i64 0, .int .i64 42, .int .i64 0, .int .i64 0] T) = W at h ⊢
  refine ⟨_, _, rfl, fun j x hj => ?_⟩
  rcases j with _ | _ | j
  · simp [marks] at hj
    subst hj
    exact ⟨_, 0, rfl, lt_of_get h, by simp [World.cell?, h], by simp [World.cell?, h], by simp [World.cell?, h]⟩
  · simp [marks] at hj
    subst hj
    exact ⟨_, 0, rfl, lt_of_get h, by simp [World.cell?, h], by simp [World.cell?, h], by simp [World.cell?, h]⟩
  · simp [marks] at hj

set_option maxRecDepth 100000 in
set_option maxHeartbeats 4000000 in
theorem spare_calls (N : Int) (ao : Option Addr) (cap : Nat) (xs : List (Int × Int × Int)) (w : World) (hl : HasArcs w (.slice ao xs.length cap) xs) (hno : ao = none → cap = 0) (hm : xs.length * 24 ≤ 140737488351232) :
    Calls Tryd.prog 5 #[.agg #[.int .i64 N, .slice ao xs.length cap]] w fun e w' => ∃ so sc, e = .returned (.tuple #[.agg #[.int .i64 N, .slice so xs.length sc], .slice so (xs.length + 2) sc]) ∧ w'.ownsRow w.heap.size 42 3 (.slice so (xs.length + 2) sc) (xs.length + 2) (flatC (xs ++ marks)) ∧ Below w.heap.size w w' := by
  obtain ⟨i0, hi, hz0, hz1, hz2⟩ : ∃ i, Tryd.prog.info? 42 = some i ∧ i.zero = some (.agg #[.int .i64 0, .int .i64 0, .int .i64 0]) ∧ i.size = 3 ∧ i.bytes = 24 := by
    have h := Tryd.infoC
    cases hi : Tryd.prog.info? 42 with
    | none => rw [hi] at h; cases h
    | some i => rw [hi] at h; simp at h; exact ⟨i, rfl, h.1, h.2.1, h.2.2⟩
  obtain ⟨W0, hW0⟩ : ∃ W0, (w.alloc (.cells #[.int .i64 N, .slice ao xs.length cap] 24)).alloc (.cells #[.int .i64 0, .slice none 0 0] 24) = W0 := ⟨_, rfl⟩
  have HW0 : Hid ((w.alloc (.cells #[.int .i64 N, .slice ao xs.length cap] 24)).alloc (.cells #[.int .i64 0, .slice none 0 0] 24) = W0) := hW0
  have hB0 : Below w.heap.size w W0 := by rw [← hW0]; exact ((Below.refl _ w).alloc (Nat.le_refl _) _).alloc (by simp) _
  have k0 : W0.heap[w.heap.size]? = some (.cells #[.int .i64 N, .slice ao xs.length cap] 24) := by rw [← hW0, Below.heap_alloc _ _ _ (by simp)]; exact heap_new _ _
  have k1 : W0.heap[w.heap.size + 1]? = some (.cells #[.int .i64 0, .slice none 0 0] 24) := by
    have h := heap_new (w.alloc (.cells #[.int .i64 N, .slice ao xs.length cap] 24)) (.cells #[.int .i64 0, .slice none 0 0] 24)
    rw [hW0] at h
    simpa using h
  have HK : Hid (∀ wx, Below W0.heap.size W0 wx → (wx.cell? ⟨w.heap.size, 0, none⟩ = some (.int .i64 N) ∧ wx.cell? ⟨w.heap.size, 1, none⟩ = some (.slice ao xs.length cap)) ∧ w.heap.size < wx.heap.size ∧ w.heap.size + 1 < wx.heap.size ∧ HasArcs wx (.slice ao xs.length cap) xs ∧ Below w.heap.size w wx ∧ wx.heap[w.heap.size + 1]? = some (.cells #[.int .i64 0, .slice none 0 0] 24)) := fun wx hx => by
    have g0 := (hx.block _ (lt_of_get k0)).trans k0
    have g1 := (hx.block _ (lt_of_get k1)).trans k1
    have hb := hB0.trans (hx.mono hB0.size)
    exact ⟨⟨(cell_two g0).1, (cell_two g0).2.1⟩, lt_of_get g0, lt_of_get g1, hl.keep hb, hb, g1⟩
  have HNO : Hid (ao = none → cap = 0) := hno
  have hwr : IntKind.i64.wrap ((xs.length : Int) + 2) = (xs.length : Int) + 2 := by rw [IntKind.wrap_i64] <;> omega
  clear hl hno hW0 hB0 k0 k1
  go_enter Tryd.func5, Tryd.ntmps5
  go_upto_region 1 with fail
  rw [HW0.out]
  obtain ⟨⟨c0, c1⟩, cs, cr, _, _, _⟩ := HK.out W0 (Below.refl _ _)
  go_wp2_with (first
    | (refine wpList_make_own _ rfl _ _ 22 rfl W0.heap.size 42 i0 (.agg #[.int .i64 0, .int .i64 0, .int .i64 0]) 3 Tryd.underlying22 hi hz0 hz1 .i64 .i64 ((xs.length : Int) + 2) (xs.length + 2) rfl rfl rfl ?hby ?h63 ?hbase ?_; (case hby => rw [hz2]; omega); (case h63 => unfold maxLen; omega); (case hbase => exact Nat.le_refl _); intro w2 hown2 hgrow2; have HO2 : Hid (type_of% hown2) := hown2; have HB2 : Hid (Below W0.heap.size W0 w2) := ⟨hgrow2.os, hgrow2.tape, hgrow2.output, hgrow2.size, fun k hk => hgrow2.block k hk (by simp)⟩; clear hown2 hgrow2; clear c0 c1 cs cr; obtain ⟨⟨c0, c1⟩, cs, cr, _, _, _⟩ := HK.out w2 HB2.out)
    | (at_builtin; first
      | (refine wpList_append_arcs2 rfl _ _ rfl W0.heap.size (.slice (some ⟨W0.heap.size, 0, none⟩) 0 (xs.length + 2)) [] rfl HO2.out ao cap xs rfl (HK.out w2 HB2.out).2.2.2.1 HNO.out (by simp; omega) HB2.out.size ?_; intro v' w3 hown3 hgrow3; have HO3 : Hid (w3.ownsRow W0.heap.size 42 3 v' xs.length (flatC xs)) := hown3; have HB3 : Hid (Below W0.heap.size W0 w3) := below_grown2 HB2.out HO2.out hgrow3 HB2.out.size (Nat.le_refl _); obtain ⟨so, sc, hv⟩ := rowC_slice HO3.out; subst hv; clear hown3 hgrow3; clear c0 c1 cs cr; obtain ⟨⟨c0, c1⟩, cs, cr, _, _, _⟩ := HK.out w3 HB3.out)
      | (refine wpList_append_arcs2 rfl _ _ rfl W0.heap.size (.slice so xs.length sc) xs rfl (rowC_keep HO3.out (below_new3 w3 _)) (some ⟨w3.heap.size, 0, none⟩) 2 marks rfl (arcs_marks w3 42) (fun e => by cases e) (by show (xs.length + 2) * 24 ≤ _; omega) (Nat.le_trans HB3.out.size (below_new3 w3 _).size) ?_; intro v' w4 hown4 hgrow4; have HO4 : Hid (w4.ownsRow W0.heap.size 42 3 v' (xs ++ marks).length (flatC (xs ++ marks))) := hown4; have HB4 : Hid (Below W0.heap.size W0 w4) := below_grown2 (HB3.out.alloc HB3.out.size _) (rowC_keep HO3.out (below_new3 w3 _)) hgrow4 (Nat.le_trans HB3.out.size (below_new3 w3 _).size) (Nat.le_refl _); rw [List.length_append, show marks.length = 2 from rfl] at HO4; obtain ⟨so4, sc4, hv4⟩ := rowC_slice HO4.out; subst hv4; clear hown4 hgrow4; clear c0 c1 cs cr; obtain ⟨⟨c0, c1⟩, cs, cr, _, _, hg4⟩ := HK.out w4 HB4.out)))
  obtain ⟨g, rfl, hgl⟩ : ∃ g, so4 = some ⟨g, 0, none⟩ ∧ xs.length + 2 ≤ sc4 := by
    rcases HO4.out.2 with ⟨e, h0⟩ | ⟨g, c, cur, e, _, _, hle, _⟩
    · omega
    · injection e with e1 _ e3
      subst e3
      exact ⟨g, e1, hle⟩
  have hsl : ∀ wx, (Instr.slice 22 (.slice (some ⟨g, 0, none⟩) (xs.length + 2) sc4) none (some (.int .i64 (xs.length : Int))) none).run Tryd.prog wx = .ok (.slice (some ⟨g, 0, none⟩) xs.length sc4) wx := fun wx => slice_upto g (xs.length + 2) sc4 xs.length hgl (by omega) wx
  obtain ⟨b0, b1, y0, y1⟩ : w4.cell? ⟨w.heap.size + 1, 0, none⟩ = some (.int .i64 0) ∧ w4.cell? ⟨w.heap.size + 1, 1, none⟩ = some (.slice none 0 0) ∧ w4.frozen? ⟨w.heap.size + 1, 0, none⟩ = false ∧ w4.frozen? ⟨w.heap.size + 1, 1, none⟩ = false := by
    simp [World.cell?, World.frozen?, hg4]
  have HG4 : Hid (w4.heap[w.heap.size + 1]? = some (.cells #[.int .i64 0, .slice none 0 0] 24)) := hg4
  have HBB : Hid (Below w.heap.size w w4 ∧ w.heap.size ≤ W0.heap.size) := ⟨(HK.out w4 HB4.out).2.2.2.2.1, (HK.out W0 (Below.refl _ _)).2.2.2.2.1.size⟩
  clear hg4 HK HNO HO2 HB2 HO3 HB3 HW0
  go_region
  go_wp2
  refine bodyPost_ret (v := .tuple #[.agg #[.int .i64 N, .slice (some ⟨g, 0, none⟩) xs.length sc4], .slice (some ⟨g, 0, none⟩) (xs.length + 2) sc4]) (by simp [results, Tryd.results5, go_sem, b0, b1]) rfl ⟨_, sc4, rfl, ?_, ?_⟩
  · exact own_far HO4.out HG4.out (by decide) (fun g hg => (heap_setCell_other _ _ _ _ hg).trans (heap_setCell_other _ _ _ _ hg)) HBB.out.2
  · exact ((HBB.out.1.setCell (p := ⟨w.heap.size + 1, 0, none⟩) (by simp) _).setCell (p := ⟨w.heap.size + 1, 1, none⟩) (by simp) _).drew
end Go.Proofs.YtghbekpilhnkfabDoor
