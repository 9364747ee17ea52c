/- search.From and search.Matrix where arrays or nodes are wrong. search.Matrix at right arrays of few nodes. viaductref08.DocMatrix. viaductref04.SameMatrix at alike matrices. -/
import Derived.Test.YtnkfggccahohpabSqE
import Derived.Test.YtnkfggccahohpabSeG
import Derived.Test.YtnkfggccahohpabSqF
import Derived.Test.YtnkfggccahohpabSqS
namespace Go.Proofs.Ytnkfggccahohpab
open Go.RowKit Go.Extern

attribute [local go_sem] Oper.semAt_some

set_option maxRecDepth 100000 in
set_option maxHeartbeats 4000000 in
theorem sFrom_early (f0 f1 f2 : Value) (s : Int) (w : World) (E : Int × List (Int × Int)) (hC : ∀ wx, Below w.heap.size w wx → Calls Try.prog 39 #[.agg #[f0, f1, f2]] wx fun e w' => ∃ T x, e = .returned (.iface T x) ∧ IsTold w' E (.iface T x) ∧ Below wx.heap.size wx w') :
    Calls Try.prog 7 #[.agg #[f0, f1, f2], .int .i64 s] w fun e w' => ∃ T x, e = .returned (.tuple #[.slice none 0 0, .iface T x]) ∧ IsTold w' E (.iface T x) ∧ Below w.heap.size w w' := by
  obtain ⟨W0, hW0⟩ : ∃ W0, (w.alloc (.cells #[f0, f1, f2] 27)).alloc (.cells #[.int .i64 s] 3) = W0 := ⟨_, rfl⟩
  have HW0 : Hid ((w.alloc (.cells #[f0, f1, f2] 27)).alloc (.cells #[.int .i64 s] 3) = W0) := hW0
  have hB0 : Below w.heap.size w W0 := by rw [← hW0]; exact ((Below.refl _ w).alloc (Nat.le_refl _) _).alloc (by simp) _
  have HNF : Hid (type_of% (newFinder_early (.agg #[f0, f1, f2]) (.slice (some ⟨w.heap.size + 1, 0, none⟩) 1 1) f0 f1 f2 rfl W0 E (fun wx hx => hC wx (btr hB0 hx)))) := newFinder_early (.agg #[f0, f1, f2]) (.slice (some ⟨w.heap.size + 1, 0, none⟩) 1 1) f0 f1 f2 rfl W0 E (fun wx hx => hC wx (btr hB0 hx))
  have HB0 : Hid (Below w.heap.size w W0) := hB0
  clear hW0 hB0 hC
  go_enter Try.func7, Try.ntmps7
  go_wp2_with fail
  rw [HW0.out]
  refine HNF.out.mono ?_
  rintro e w1 ⟨T, x, rfl, hq, hb⟩
  have H1 : Hid (IsTold w1 E (.iface T x) ∧ Below w.heap.size w w1) := ⟨hq, btr HB0.out hb⟩
  clear hq hb
  go_wp2
  go_ret2
  exact ⟨T, x, rfl, H1.out.1, H1.out.2⟩

set_option maxRecDepth 100000 in
set_option maxHeartbeats 4000000 in
theorem sFrom_node (n : Nat) (zs : List (Int × Int × Int)) (fo uo wo : Option Addr) (fc tc wc : Nat) (w : World) (hz : Fine n zs) (h : CsrIn w n zs fo uo wo fc tc wc) (s : Int) (hs : ¬ (0 ≤ s ∧ s < (n : Int))) :
    Calls Try.prog 7 #[.agg #[.slice fo (n + 1) fc, .slice uo zs.length tc, .slice wo zs.length wc], .int .i64 s] w fun e w' => e = .returned (.tuple #[.slice none 0 0, .iface 65 (.int .i64 7)]) ∧ Below w.heap.size w w' := by
  obtain ⟨W0, hW0⟩ : ∃ W0, (w.alloc (.cells #[.slice fo (n + 1) fc, .slice uo zs.length tc, .slice wo zs.length wc] 27)).alloc (.cells #[.int .i64 s] 3) = W0 := ⟨_, rfl⟩
  have HW0 : Hid ((w.alloc (.cells #[.slice fo (n + 1) fc, .slice uo zs.length tc, .slice wo zs.length wc] 27)).alloc (.cells #[.int .i64 s] 3) = W0) := hW0
  have hB0 : Below w.heap.size w W0 := by rw [← hW0]; exact ((Below.refl _ w).alloc (Nat.le_refl _) _).alloc (by simp) _
  have hI : HasInts W0 (.slice (some ⟨w.heap.size + 1, 0, none⟩) 1 1) [s] := by
    have := ints_one (w.alloc (.cells #[.slice fo (n + 1) fc, .slice uo zs.length tc, .slice wo zs.length wc] 27)) s
    rw [hW0] at this
    simpa using this
  have HNF : Hid (Calls Try.prog 22 #[.agg #[.slice fo (n + 1) fc, .slice uo zs.length tc, .slice wo zs.length wc], .slice (some ⟨w.heap.size + 1, 0, none⟩) 1 1] W0 fun e w' => e = .returned (.tuple #[.pointer none, .iface 65 (.int .i64 7)]) ∧ Below W0.heap.size W0 w') :=
    newFinder_node n zs fo uo wo fc tc wc W0 hz (h.keep hB0) (some ⟨w.heap.size + 1, 0, none⟩) 1 [s] hI (by simp) 0 s rfl hs (fun j v hj hv => by omega)
  have HB0 : Hid (Below w.heap.size w W0) := hB0
  clear hW0 hB0 hI h hz hs
  go_enter Try.func7, Try.ntmps7
  go_wp2_with fail
  rw [HW0.out]
  refine HNF.out.mono ?_
  rintro e w1 ⟨rfl, hb⟩
  have H1 : Hid (Below w.heap.size w w1) := btr HB0.out hb
  clear hb
  go_wp2
  go_ret2
  exact ⟨rfl, H1.out⟩

set_option maxRecDepth 100000 in
set_option maxHeartbeats 4000000 in
theorem sMatrix_early (f0 f1 f2 : Value) (w : World) (E : Int × List (Int × Int)) (hC : ∀ wx, Below w.heap.size w wx → Calls Try.prog 39 #[.agg #[f0, f1, f2]] wx fun e w' => ∃ T x, e = .returned (.iface T x) ∧ IsTold w' E (.iface T x) ∧ Below wx.heap.size wx w') :
    Calls Try.prog 8 #[.agg #[f0, f1, f2]] w fun e w' => ∃ T x, e = .returned (.tuple #[.slice none 0 0, .iface T x]) ∧ IsTold w' E (.iface T x) ∧ Below w.heap.size w w' := by
  obtain ⟨W0, hW0⟩ : ∃ W0, w.alloc (.cells #[f0, f1, f2] 27) = W0 := ⟨_, rfl⟩
  have HW0 : Hid (w.alloc (.cells #[f0, f1, f2] 27) = W0) := hW0
  have hB0 : Below w.heap.size w W0 := by rw [← hW0]; exact (Below.refl _ w).alloc (Nat.le_refl _) _
  have HNF : Hid (type_of% (newFinder_early (.agg #[f0, f1, f2]) (.slice none 0 0) f0 f1 f2 rfl W0 E (fun wx hx => hC wx (btr hB0 hx)))) := newFinder_early (.agg #[f0, f1, f2]) (.slice none 0 0) f0 f1 f2 rfl W0 E (fun wx hx => hC wx (btr hB0 hx))
  have HB0 : Hid (Below w.heap.size w W0) := hB0
  clear hW0 hB0 hC
  go_enter Try.func8, Try.ntmps8
  go_wp2_with fail
  rw [HW0.out]
  refine HNF.out.mono ?_
  rintro e w1 ⟨T, x, rfl, hq, hb⟩
  have H1 : Hid (IsTold w1 E (.iface T x) ∧ Below w.heap.size w w1) := ⟨hq, btr HB0.out hb⟩
  clear hq hb
  go_wp2
  go_ret2
  exact ⟨T, x, rfl, H1.out.1, H1.out.2⟩
end Go.Proofs.Ytnkfggccahohpab

namespace Go.Proofs.Ytnkfggccahohpab
open Go.RowKit Go.Extern

attribute [local go_sem] Oper.semAt_some

/-- a block that is none of a finder's. -/
structure Free (L : FL) (sv : Value) (b : Nat) : Prop where
  fi : b ≠ L.fi
  sb : b ≠ L.sb
  pb : b ≠ L.pb
  kb : b ≠ L.kb
  ab : b ≠ L.ab
  hb : b ≠ L.hb
  wb : b ≠ L.wb
  own : sv.ownBlock ≠ some b
theorem Fnd.far {B b : Nat} {w w' : World} {n : Nat} {L : FL} {c0 c1 c2 sv : Value} {S : FS} (h : Fnd B w n L c0 c1 c2 sv S) (hf : Free L sv b) (hk : ∀ k, k ≠ b → w'.heap[k]? = w.heap[k]?) : Fnd B w' n L c0 c1 c2 sv S := by
  refine ⟨(hk _ hf.fi.symm).trans h.box, h.st.keep fun k hl e => hk k ?_, h.hp.keep fun k hl e => hk k ?_, h.hops.keep (hk _ hf.kb.symm), h.ahead.keep (hk _ hf.ab.symm), h.ap, h.up, h.own⟩
  · rcases e with rfl | rfl
    · exact hf.sb.symm
    · exact hf.pb.symm
  · rcases e with rfl | rfl | e
    · exact hf.hb.symm
    · exact hf.wb.symm
    · intro e2
      subst e2
      exact hf.own e
theorem Free.fx {b : Nat} {w w' : World} {L : FL} {sv sv' : Value} (hf : Free L sv b) (hx : Fx L sv sv' w w') (hb : b < w.heap.size) : Free L sv' b ∧ w'.heap[b]? = w.heap[b]? :=
  ⟨⟨hf.fi, hf.sb, hf.pb, hf.kb, hf.ab, hf.hb, hf.wb, fun e => hf.own (hx.own b hb e)⟩, hx.block b hb hf.sb hf.pb hf.kb hf.ab hf.hb hf.wb hf.own⟩
theorem Free.new {B b : Nat} {w : World} {n : Nat} {L : FL} {c0 c1 c2 sv sv' : Value} {S : FS} (h : Fnd B w n L c0 c1 c2 sv S) (hb : w.heap.size ≤ b) (ho : sv'.ownBlock ≠ some b) : Free L sv' b := by
  obtain ⟨l1, l2, l3, l4, l5, l6, l7⟩ := h.lts
  exact ⟨by omega, by omega, by omega, by omega, by omega, by omega, by omega, ho⟩
/-- rows as cells. -/
def RowsAt (w : World) (rb : Nat) (vs : List Value) : Prop := w.heap[rb]? = some (.cells vs.toArray 29)
theorem RowsAt.at {w : World} {rb : Nat} {vs : List Value} (h : RowsAt w rb vs) {k : Nat} {v : Value} (hk : vs[k]? = some v) : w.cell? ⟨rb, k, none⟩ = some v ∧ rb < w.heap.size ∧ w.frozen? ⟨rb, k, none⟩ = false := by
  refine ⟨?_, lt_of_get h, ?_⟩
  · simp [World.cell?, show w.heap[rb]? = _ from h, hk]
  · simp [World.frozen?, show w.heap[rb]? = _ from h]
theorem RowsAt.apart {w : World} {rb db : Nat} {vs : List Value} {D : List Int} (h : RowsAt w rb vs) (hU : U64s w db D) : db ≠ rb := fun e => by
  have h1 : w.heap[rb]? = _ := h
  have h2 : w.heap[db]? = _ := hU
  rw [e, h1] at h2
  injection h2 with h2
  injection h2 with h3 h4
  exact absurd h4 (by decide)
/-- the rows are the distances. -/
def Mat (w : World) (n : Nat) (zs : List (Int × Int × Int)) (vs : List Value) : Prop := ∀ (i : Nat) (v : Value), vs[i]? = some v → ∃ db D, v = .slice (some ⟨db, 0, none⟩) n n ∧ IsDist n zs i D ∧ U64s w db D
theorem Mat.keep {w w' : World} {n : Nat} {zs : List (Int × Int × Int)} {vs : List Value} (h : Mat w n zs vs) (hb : Below w.heap.size w w') : Mat w' n zs vs := fun i v hv => by
  obtain ⟨db, D, e, hD, hU⟩ := h i v hv
  exact ⟨db, D, e, hD, (hb.block _ (lt_of_get hU)).trans hU⟩
/-- the rows are new memory besides. -/
def MatN (w : World) (B n : Nat) (zs : List (Int × Int × Int)) (vs : List Value) : Prop := ∀ (i : Nat) (v : Value), vs[i]? = some v → ∃ db D, v = .slice (some ⟨db, 0, none⟩) n n ∧ IsDist n zs i D ∧ U64s w db D ∧ B ≤ db
theorem MatN.mat {w : World} {B n : Nat} {zs : List (Int × Int × Int)} {vs : List Value} (h : MatN w B n zs vs) : Mat w n zs vs := fun i v hv => by
  obtain ⟨db, D, e, hD, hU, _⟩ := h i v hv
  exact ⟨db, D, e, hD, hU⟩
theorem infoR : (Try.prog.info? 29).map (fun i => (i.zero, i.size, i.bytes)) = some (some (.slice none 0 0), 1, 24) := by kernel_rfl
theorem made_rows (w : World) (n : Nat) : RowsAt (w.alloc (.cells (madeCells #[.slice none 0 0] n) 29)) w.heap.size (List.replicate n (.slice none 0 0)) := by
  unfold RowsAt
  rw [heap_new]
  congr 2
  have := toList_madeCells_one (.slice none 0 0) n
  apply Array.ext'
  rw [this]
/-- what holds between two rows. -/
def MI (B n : Nat) (zs : List (Int × Int × Int)) (L : FL) (c0 c1 c2 : Value) (rb k : Nat) (w : World) : Prop :=
  ∃ sv S vs, vs.length = k ∧ Fnd B w n L c0 c1 c2 sv S ∧ RowsAt w rb (vs ++ List.replicate (n - k) (.slice none 0 0)) ∧ Free L sv rb ∧ ∀ (i : Nat) (v : Value), vs[i]? = some v → ∃ db D, v = .slice (some ⟨db, 0, none⟩) n n ∧ IsDist n zs i D ∧ U64s w db D ∧ Free L sv db ∧ B ≤ db
theorem MI.next {B n : Nat} {zs : List (Int × Int × Int)} {L : FL} {c0 c1 c2 : Value} {rb k : Nat} {w w' : World} {sv sv' : Value} {S S' : FS} {vs : List Value} (hB : B ≤ w.heap.size) (hk : k < n) (h1 : vs.length = k) (h2 : Fnd B w n L c0 c1 c2 sv S) (h3 : RowsAt w rb (vs ++ List.replicate (n - k) (.slice none 0 0))) (h4 : Free L sv rb) (h5 : ∀ (i : Nat) (v : Value), vs[i]? = some v → ∃ db D, v = .slice (some ⟨db, 0, none⟩) n n ∧ IsDist n zs i D ∧ U64s w db D ∧ Free L sv db ∧ B ≤ db)
    {db : Nat} {D : List Int} (hD : IsDist n zs k D) (hU : U64s w' db D) (hdb : w.heap.size ≤ db) (hx : Fx L sv sv' w w') (ho : sv'.ownBlock ≠ some db) (hF : Fnd B w' n L c0 c1 c2 sv' S') : (RowsAt w' rb (vs ++ List.replicate (n - k) (.slice none 0 0)) ∧ rb < w.heap.size) ∧ MI B n zs L c0 c1 c2 rb (k + 1) (w'.setCell ⟨rb, k, none⟩ (.slice (some ⟨db, 0, none⟩) n n)) := by
  have hrl := lt_of_get h3
  obtain ⟨g1, g2⟩ := h4.fx hx hrl
  have hR : RowsAt w' rb (vs ++ List.replicate (n - k) (.slice none 0 0)) := g2.trans h3
  have hfar : ∀ g, g ≠ rb → (w'.setCell ⟨rb, k, none⟩ (.slice (some ⟨db, 0, none⟩) n n)).heap[g]? = w'.heap[g]? := fun g hg => heap_setCell_other _ _ _ _ hg
  refine ⟨⟨hR, hrl⟩, sv', S', vs ++ [.slice (some ⟨db, 0, none⟩) n n], by simp [h1], hF.far g1 hfar, ?_, g1, fun i v hv => ?_⟩
  · unfold RowsAt
    rw [Go.heap_setCell_same _ _ k _ _ _ hR]
    congr 2
    rw [List.setIfInBounds_toArray]
    congr 1
    obtain ⟨m, hm⟩ : ∃ m, n - k = m + 1 := ⟨n - k - 1, by omega⟩
    rw [hm, show n - (k + 1) = m by omega, List.replicate_succ, List.set_append_right _ _ (by omega), h1, Nat.sub_self]
    simp
  · by_cases hi : i < vs.length
    · rw [List.getElem?_append_left hi] at hv
      obtain ⟨db0, D0, e0, q1, q2, q3, q4⟩ := h5 i v hv
      obtain ⟨r1, r2⟩ := q3.fx hx (lt_of_get q2)
      have hU0 : U64s w' db0 D0 := r2.trans q2
      exact ⟨db0, D0, e0, q1, (hfar db0 (hR.apart hU0)).trans hU0, r1, q4⟩
    · rw [List.getElem?_append_right (by omega)] at hv
      have hi2 : i - vs.length = 0 := by
        rcases Nat.eq_zero_or_pos (i - vs.length) with h | h
        · exact h
        · rw [List.getElem?_eq_none (by simp; omega)] at hv; cases hv
      rw [hi2] at hv
      cases hv
      obtain rfl : i = k := by omega
      exact ⟨db, D, rfl, hD, (hfar db (hR.apart hU)).trans hU, Free.new h2 hdb ho, Nat.le_trans hB hdb⟩

set_option maxRecDepth 100000 in
set_option maxHeartbeats 8000000 in
theorem sMatrix_new (n : Nat) (zs : List (Int × Int × Int)) (fo uo wo : Option Addr) (fc tc wc : Nat) (w : World) (hz : Fine n zs) (h : CsrIn w n zs fo uo wo fc tc wc) (hn : n ≤ 1024) :
    Calls Try.prog 8 #[.agg #[.slice fo (n + 1) fc, .slice uo zs.length tc, .slice wo zs.length wc]] w fun e w' => ∃ rb vs, e = .returned (.tuple #[.slice (some ⟨rb, 0, none⟩) n n, .nilIface]) ∧ vs.length = n ∧ RowsAt w' rb vs ∧ (MatN w' w.heap.size n zs vs ∧ w.heap.size ≤ rb) ∧ Below w.heap.size w w' := by
  have hmk := run_make_row' (P := Try.prog) 34 29 (.slice none 0 0) 24 Try.underlying34 infoR rfl .i64 .i64 n (by omega) (by omega)
  obtain ⟨W0, hW0⟩ : ∃ W0, w.alloc (.cells #[.slice fo (n + 1) fc, .slice uo zs.length tc, .slice wo zs.length wc] 27) = W0 := ⟨_, rfl⟩
  have HW0 : Hid (w.alloc (.cells #[.slice fo (n + 1) fc, .slice uo zs.length tc, .slice wo zs.length wc] 27) = W0) := hW0
  have hB0 : Below w.heap.size w W0 := by rw [← hW0]; exact (Below.refl _ w).alloc (Nat.le_refl _) _
  have HC : Hid (∀ wx, Below w.heap.size w wx → CsrIn wx n zs fo uo wo fc tc wc) := fun wx hb => h.keep hb
  have HNF : Hid (Calls Try.prog 22 #[.agg #[.slice fo (n + 1) fc, .slice uo zs.length tc, .slice wo zs.length wc], .slice none 0 0] W0 fun e w' => ∃ L S, e = .returned (.tuple #[.pointer (some ⟨L.fi, 0, none⟩), .nilIface]) ∧ Fnd W0.heap.size w' n L (.slice fo (n + 1) fc) (.slice uo zs.length tc) (.slice wo zs.length wc) (.slice none 0 0) S ∧ Below W0.heap.size W0 w') := newFinder_good n zs fo uo wo fc tc wc W0 hz (h.keep hB0) none 0 [] ⟨none, 0, rfl, fun j q hj => by simp at hj⟩ (by simp) (fun v hv => by simp at hv)
  have HZ : Hid (Fine n zs) := hz
  have HB0 : Hid (Below w.heap.size w W0) := hB0
  have hsq : (n : Int) * (n : Int) ≤ 1048576 := by
    have h1 : (n : Int) ≤ 1024 := by omega
    have h2 : (0 : Int) ≤ (n : Int) := by omega
    calc (n : Int) * (n : Int) ≤ 1024 * 1024 := Int.mul_le_mul h1 h1 h2 (by omega)
      _ = 1048576 := by decide
  have hsq0 : (0 : Int) ≤ (n : Int) * (n : Int) := Int.mul_nonneg (by omega) (by omega)
  have hw : IntKind.i64.wrap ((n : Int) * (n : Int)) = (n : Int) * (n : Int) := by rw [IntKind.wrap_i64] <;> omega
  have hle : ¬ (1048576 : Int) < (n : Int) * (n : Int) := by omega
  clear hW0 hB0 h hz hsq hsq0
  go_enter Try.func8, Try.ntmps8
  go_wp2_with fail
  rw [HW0.out]
  refine HNF.out.mono ?_
  rintro e w1 ⟨L, S, rfl, hF, hb1⟩
  have H1 : Hid (Fnd W0.heap.size w1 n L (.slice fo (n + 1) fc) (.slice uo zs.length tc) (.slice wo zs.length wc) (.slice none 0 0) S ∧ Below W0.heap.size W0 w1) := ⟨hF, hb1⟩
  clear hF hb1
  go_wp2_with fail
  refine (fnodes_calls H1.out.1).mono ?_
  rintro e w2 ⟨rfl, rfl⟩
  go_wp2_with fail
  obtain ⟨W, hW⟩ : ∃ W, w2.alloc (.cells (madeCells #[.slice none 0 0] n) 29) = W := ⟨_, rfl⟩
  have HW : Hid (w2.alloc (.cells (madeCells #[.slice none 0 0] n) 29) = W) := hW
  have HM0 : Hid (MI W0.heap.size n zs L (.slice fo (n + 1) fc) (.slice uo zs.length tc) (.slice wo zs.length wc) w2.heap.size 0 W ∧ Below W0.heap.size W0 W ∧ W0.heap.size ≤ w2.heap.size) := by
    have hb : Below w2.heap.size w2 W := by rw [← hW]; exact (Below.refl _ _).alloc (Nat.le_refl _) _
    refine ⟨⟨.slice none 0 0, S, [], rfl, H1.out.1.below hb, ?_, Free.new H1.out.1 (Nat.le_refl _) (by simp [Value.ownBlock]), fun i v hv => by simp at hv⟩, btr H1.out.2 hb, H1.out.2.size⟩
    rw [List.nil_append, Nat.sub_zero, ← hW]
    exact made_rows w2 n
  rw [HW.out]
  clear hW
  generalize w2.heap.size = rb at *
  go_loopw [28] (fun iv wr => ∃ k : Nat, k ≤ n ∧ iv = .int .i64 k ∧ MI W0.heap.size n zs L (.slice fo (n + 1) fc) (.slice uo zs.length tc) (.slice wo zs.length wc) rb k wr ∧ Below W0.heap.size W0 wr) (fun iv _ => n - (intOf iv).toNat)
  case atStart => exact ⟨0, by omega, rfl, HM0.out.1, HM0.out.2.1⟩
  case round =>
    obtain ⟨k, hk, rfl, hM, hb⟩ := hrel
    have HM : Hid (MI W0.heap.size n zs L (.slice fo (n + 1) fc) (.slice uo zs.length tc) (.slice wo zs.length wc) rb k wr ∧ Below W0.heap.size W0 wr) := ⟨hM, hb⟩
    clear hM hb
    by_cases hlt : k < n
    · obtain ⟨sv, S1, vs, m1, m2, m3, m4, m5⟩ := HM.out.1
      have HDS : Hid (type_of% (distances_calls m2 HM.out.2.size HZ.out (fun wx hx => HC.out wx (btr HB0.out (HM.out.2.trans hx))) k hlt)) := distances_calls m2 HM.out.2.size HZ.out (fun wx hx => HC.out wx (btr HB0.out (HM.out.2.trans hx))) k hlt
      have HNX : Hid (∀ w' db D sv' S', IsDist n zs k D → U64s w' db D → wr.heap.size ≤ db → Fx L sv sv' wr w' → sv'.ownBlock ≠ some db → Fnd W0.heap.size w' n L (.slice fo (n + 1) fc) (.slice uo zs.length tc) (.slice wo zs.length wc) sv' S' → (RowsAt w' rb (vs ++ List.replicate (n - k) (.slice none 0 0)) ∧ rb < wr.heap.size) ∧ MI W0.heap.size n zs L (.slice fo (n + 1) fc) (.slice uo zs.length tc) (.slice wo zs.length wc) rb (k + 1) (w'.setCell ⟨rb, k, none⟩ (.slice (some ⟨db, 0, none⟩) n n))) := fun w' db D sv' S' q1 q2 q3 q4 q5 q6 => MI.next HM.out.2.size hlt m1 m2 m3 m4 m5 q1 q2 q3 q4 q5 q6
      have HVL : Hid (vs.length = k) := m1
      have i1 : (k : Int) < (n : Int) := by omega
      have i2 : (0 : Int) ≤ (k : Int) := by omega
      clear m1 m2 m3 m4 m5
      go_wp2_with fail
      refine HDS.out.mono ?_
      rintro e w5 ⟨db, D, sv', S', rfl, hD, ⟨hU, hdb, hx, ho⟩, hF, hb5⟩
      obtain ⟨⟨hR, hrl⟩, hM5⟩ := HNX.out w5 db D sv' S' hD hU hdb hx ho hF
      have H5 : Hid (MI W0.heap.size n zs L (.slice fo (n + 1) fc) (.slice uo zs.length tc) (.slice wo zs.length wc) rb (k + 1) (w5.setCell ⟨rb, k, none⟩ (.slice (some ⟨db, 0, none⟩) n n)) ∧ Below W0.heap.size W0 (w5.setCell ⟨rb, k, none⟩ (.slice (some ⟨db, 0, none⟩) n n))) := ⟨hM5, (HM.out.2.trans hb5).setCell (p := ⟨rb, k, none⟩) HM0.out.2.2 _⟩
      obtain ⟨c1, c2, c3⟩ := hR.at (k := k) (v := .slice none 0 0) (by rw [List.getElem?_append_right (by have := HVL.out; omega), HVL.out, Nat.sub_self, List.getElem?_replicate, if_pos (by omega)])
      clear hD hU hdb hx ho hF hb5 hR hrl hM5 HDS HNX
      go_wp2
      go_roundw
      case rel => exact ⟨k + 1, by omega, by go_num, H5.out.1, H5.out.2⟩
      case measure => simp [intOf]; omega
    · obtain rfl : k = n := by omega
      go_wp2
      go_ret2
      obtain ⟨sv, S1, vs, m1, m2, m3, m4, m5⟩ := HM.out.1
      rw [Nat.sub_self, List.replicate_zero, List.append_nil] at m3
      exact ⟨rb, vs, rfl, m1, m3, ⟨fun i v hv => by
        obtain ⟨db, D, e, q1, q2, _, q3⟩ := m5 i v hv
        exact ⟨db, D, e, q1, q2, Nat.le_trans HB0.out.size q3⟩, Nat.le_trans HB0.out.size HM0.out.2.2⟩, btr HB0.out HM.out.2⟩
theorem sMatrix_good (n : Nat) (zs : List (Int × Int × Int)) (fo uo wo : Option Addr) (fc tc wc : Nat) (w : World) (hz : Fine n zs) (h : CsrIn w n zs fo uo wo fc tc wc) (hn : n ≤ 1024) :
    Calls Try.prog 8 #[.agg #[.slice fo (n + 1) fc, .slice uo zs.length tc, .slice wo zs.length wc]] w fun e w' => ∃ rb vs, e = .returned (.tuple #[.slice (some ⟨rb, 0, none⟩) n n, .nilIface]) ∧ vs.length = n ∧ RowsAt w' rb vs ∧ Mat w' n zs vs ∧ Below w.heap.size w w' := by
  refine (sMatrix_new n zs fo uo wo fc tc wc w hz h hn).mono ?_
  rintro e w' ⟨rb, vs, h1, h2, h3, h4, h5⟩
  exact ⟨rb, vs, h1, h2, h3, h4.1.mat, h5⟩
end Go.Proofs.Ytnkfggccahohpab

namespace Go.Proofs.Ytnkfggccahohpab
open Go.RowKit Go.Extern

attribute [local go_sem] Oper.semAt_some

section
variable (fo uo wo : Option Addr) (fl fc tl tc wl wc n : Nat) (w : World)

set_option maxRecDepth 100000 in
set_option maxHeartbeats 4000000 in
theorem docMatrix_bad (C : Int) (ps : List (Int × Int)) (hC : C ≠ 0) (hD : ∀ wx, Below w.heap.size w wx → Calls Try.prog 19 #[.agg #[.slice fo fl fc, .slice uo tl tc, .slice wo wl wc]] wx (DocAns wx (C, ps))) :
    Calls Try.prog 13 #[.agg #[.slice fo fl fc, .slice uo tl tc, .slice wo wl wc]] w fun e w' => ∃ po pc, e = .returned (.tuple #[.slice none 0 0, .agg #[.int .i64 C, .slice po ps.length pc]]) ∧ HasPlaces w' (.slice po ps.length pc) ps ∧ Below w.heap.size w w' := by
  have HDB : Hid (type_of% (DB.made w (.slice fo fl fc) (.slice uo tl tc) (.slice wo wl wc))) := DB.made w (.slice fo fl fc) (.slice uo tl tc) (.slice wo wl wc)
  have HDC : Hid (type_of% hD) := hD
  have HBT : Hid (∀ l, (C != 0 || decide (0 < l)) = true) := fun l => badT hC l
  clear hD
  go_enter Try.func13, Try.ntmps13
  go_wp2_with fail
  generalize (w.alloc (.cells #[.slice fo fl fc, .slice uo tl tc, .slice wo wl wc] 24)).alloc (.cells #[.int .i64 0, .slice none 0 0] 46) = W0 at *
  refine (HDC.out W0 HDB.out.below).mono ?_
  rintro e w1 ⟨po, pc, rfl, hP, hb⟩
  simp only at hP
  have H1 : Hid (DB w (.slice fo fl fc) (.slice uo tl tc) (.slice wo wl wc) w1 ∧ HasPlaces w1 (.slice po ps.length pc) ps) := ⟨HDB.out.keep hb, hP⟩
  clear hb hP
  go_wp2_with fail
  have H2 : Hid (DB w (.slice fo fl fc) (.slice uo tl tc) (.slice wo wl wc) (w1.alloc (.cells #[.int .i64 C, .slice po ps.length pc] 46)) ∧ HasPlaces (w1.alloc (.cells #[.int .i64 C, .slice po ps.length pc] 46)) (.slice po ps.length pc) ps ∧ (w1.alloc (.cells #[.int .i64 C, .slice po ps.length pc] 46)).heap[w1.heap.size]? = some (.cells #[.int .i64 C, .slice po ps.length pc] 46)) := ⟨H1.out.1.keep (below1 _ _), H1.out.2.keep (below1 _ _), heap_new _ _⟩
  have hbn : w.heap.size + 1 < w1.heap.size := lt_of_get H1.out.1.res
  generalize w1.alloc (.cells #[.int .i64 C, .slice po ps.length pc] 46) = W1 at *
  generalize w1.heap.size = B at *
  refine (bad_calls C po ps.length pc W1).mono ?_
  rw [HBT.out]
  rintro e w2 ⟨rfl, hb⟩
  have H3 : Hid (DB w (.slice fo fl fc) (.slice uo tl tc) (.slice wo wl wc) w2 ∧ HasPlaces w2 (.slice po ps.length pc) ps ∧ w2.heap[B]? = some (.cells #[.int .i64 C, .slice po ps.length pc] 46)) := ⟨H2.out.1.keep hb, H2.out.2.1.keep hb, (hb.block _ (lt_of_get H2.out.2.2)).trans H2.out.2.2⟩
  clear hb
  obtain ⟨e0, e1, _, _⟩ := cell_two H3.out.2.2
  have es := lt_of_get H3.out.2.2
  obtain ⟨d0, d1, x0, x1⟩ := cell_two H3.out.1.res
  have ds := lt_of_get H3.out.1.res
  have n1 : ¬ B = w.heap.size + 1 := by omega
  have n3 : ¬ w.heap.size + 1 = B := by omega
  go_wp2_with fail
  go_region_held (fun w' => w'.cell? ⟨B, 0, none⟩ = some (.int .i64 C) ∧ w'.cell? ⟨B, 1, none⟩ = some (.slice po ps.length pc)) (go_keep) (first | fail)
  all_goals
    go_wp2
    refine bodyPost_ret (v := .tuple #[.slice none 0 0, .agg #[.int .i64 C, .slice po ps.length pc]]) (by simp [results, Try.results13, go_sem, d0, d1]) rfl ?_
    exact ⟨po, pc, rfl, (show HasPlaces (lay2 w2 (w.heap.size + 1) (.int .i64 C) (.slice po ps.length pc)) (.slice po ps.length pc) ps from lay2_places H3.out.2.1 H3.out.1.res), (show Below w.heap.size w (lay2 w2 (w.heap.size + 1) (.int .i64 C) (.slice po ps.length pc)) from lay2_below H3.out.1.below (by omega)).drew⟩
end
theorem rown_keep {w w' : World} {B n : Nat} {v : Value} {xs : List Value} (h : w.ownsRow B 29 1 v n xs) (hk : ∀ k, v.ownBlock = some k → w'.heap[k]? = w.heap[k]?) : w'.ownsRow B 29 1 v n xs := by
  obtain ⟨h1, h2⟩ := h
  refine ⟨h1, ?_⟩
  rcases h2 with h2 | ⟨g, cap, cur, e, hb, hh, r⟩
  · exact Or.inl h2
  · subst e
    exact Or.inr ⟨g, cap, cur, rfl, hb, (hk g rfl).trans hh, r⟩
theorem rown_below {w w' : World} {B n : Nat} {v : Value} {xs : List Value} (h : w.ownsRow B 29 1 v n xs) (hb : Below w.heap.size w w') : w'.ownsRow B 29 1 v n xs := rown_keep h fun k hk => hb.block _ (h.lt k hk).2
theorem rown_not_box {w : World} {B n b : Nat} {v : Value} {xs : List Value} {c : Array Value} {T : TypeId} (h : w.ownsRow B 29 1 v n xs) (hb : w.heap[b]? = some (.cells c T)) (hT : T ≠ 29) : v.ownBlock ≠ some b := by
  rcases h.2 with ⟨rfl, _⟩ | ⟨g, cap, cur, rfl, _, hg, _⟩
  · intro e; cases e
  · intro e
    obtain rfl : g = b := Option.some.inj e
    rw [hg] at hb
    cases hb
    exact hT rfl
theorem rown_slice {w : World} {B n : Nat} {v : Value} {xs : List Value} (h : w.ownsRow B 29 1 v n xs) : ∃ ao cap, v = .slice ao n cap := by
  rcases h.2 with ⟨h, h'⟩ | ⟨g, cap, cur, h, _⟩
  · exact ⟨none, 0, by rw [h']; exact h⟩
  · exact ⟨_, cap, h⟩
theorem rbelow_grown {w0 w w' : World} {base n : Nat} {xs : List Value} {v : Value} (hb : Below base w0 w) (h : w.ownsRow base 29 1 v n xs) (hg : w.grownBy w' v.ownBlock) (hs : base ≤ w.heap.size) : Below base w0 w' :=
  hb.trans ⟨hg.os, hg.tape, hg.output, hg.size, fun j hj => hg.block j (Nat.lt_of_lt_of_le hj hs) (fun e => by have := (h.lt j e.symm).1; omega)⟩
theorem rw_cell (w : World) (v : Value) : ∀ j u, [v][j]? = some u → (w.alloc (.cells #[v] 29)).cell? ((⟨w.heap.size, 0, none⟩ : Addr).add j) = some u := by
  intro j u hj
  have h := heap_new w (.cells #[v] 29)
  generalize w.alloc (.cells #[v] 29) = W at h
  rcases j with _ | j
  · cases hj
    simp [Addr.add, World.cell?, h]
  · simp at hj
/-- rows that can be read. -/
def HasRows (w : World) (lo : Option Addr) (vs : List Value) : Prop := ∀ (i : Nat) (v : Value), vs[i]? = some v → ∃ b, lo = some ⟨b, 0, none⟩ ∧ (∃ cur, w.heap[b]? = some (.cells cur 29)) ∧ w.cell? ⟨b, i, none⟩ = some v
theorem HasRows.keep {w w' : World} {lo : Option Addr} {vs : List Value} (h : HasRows w lo vs) (hb : Below w.heap.size w w') : HasRows w' lo vs := fun i v hv => by
  obtain ⟨b, e, ⟨cur, hc⟩, c⟩ := h i v hv
  exact ⟨b, e, ⟨cur, (hb.block _ (lt_of_get hc)).trans hc⟩, (hb.cell (p := ⟨b, i, none⟩) (lt_of_get hc)).trans c⟩
theorem HasRows.lay {w : World} {lo : Option Addr} {vs : List Value} {eb : Nat} {c : Array Value} {T : TypeId} {x y : Value} (h : HasRows w lo vs) (hb : w.heap[eb]? = some (.cells c T)) (hT : T ≠ 29) : HasRows (lay2 w eb x y) lo vs := fun i v hv => by
  obtain ⟨b, e, ⟨cur, hc⟩, q⟩ := h i v hv
  have hne : b ≠ eb := fun e2 => by rw [e2, hb] at hc; cases hc; exact hT rfl
  exact ⟨b, e, ⟨cur, (lay2_far hne).trans hc⟩, (World.cell?_of_block (a := ⟨b, i, none⟩) (lay2_far hne)).trans q⟩
theorem Mat.lay {w : World} {n : Nat} {zs : List (Int × Int × Int)} {vs : List Value} {eb : Nat} {c : Array Value} {T : TypeId} {x y : Value} (h : Mat w n zs vs) (hb : w.heap[eb]? = some (.cells c T)) (hT : T ≠ 42) : Mat (lay2 w eb x y) n zs vs := fun i v hv => by
  obtain ⟨db, D, e, hD, hU⟩ := h i v hv
  have hne : db ≠ eb := fun e2 => by
    have h2 : w.heap[db]? = _ := hU
    rw [e2, hb] at h2
    injection h2 with h2
    injection h2 with h3 h4
    exact hT h4
  exact ⟨db, D, e, hD, (lay2_far hne).trans hU⟩
theorem rows_of_rown {w : World} {B lc : Nat} {lo : Option Addr} {vs : List Value} (h : w.ownsRow B 29 1 (.slice lo vs.length lc) vs.length vs) : HasRows w lo vs := fun j v hj => by
  have hlt := (List.getElem?_eq_some_iff.1 hj).1
  rcases h.2 with ⟨e, h0⟩ | ⟨g, cap, cur, e, hg, hh, _⟩
  · omega
  · injection e with e1 e2 e3
    subst e1
    subst e3
    have h' := h.cellAt j (by omega)
    exact ⟨g, rfl, ⟨cur, hh⟩, h'.trans (by simp [hj])⟩
theorem rows_of_at {w : World} {rb : Nat} {vs : List Value} (h : RowsAt w rb vs) : HasRows w (some ⟨rb, 0, none⟩) vs := fun _ _ hj => ⟨rb, rfl, ⟨_, h⟩, (h.at hj).1⟩

set_option maxRecDepth 100000 in
set_option maxHeartbeats 8000000 in
theorem docMatrix_good (n : Nat) (zs : List (Int × Int × Int)) (fo uo wo : Option Addr) (fc tc wc : Nat) (w : World) (hz : Fine n zs) (h : CsrIn w n zs fo uo wo fc tc wc) (hn : n ≤ 1024) (hD : ∀ wx, Below w.heap.size w wx → Calls Try.prog 19 #[.agg #[.slice fo (n + 1) fc, .slice uo zs.length tc, .slice wo zs.length wc]] wx (DocAns wx (0, []))) :
    Calls Try.prog 13 #[.agg #[.slice fo (n + 1) fc, .slice uo zs.length tc, .slice wo zs.length wc]] w fun e w' => ∃ lo lc vs, e = .returned (.tuple #[.slice lo n lc, .agg #[.int .i64 0, .slice none 0 0]]) ∧ vs.length = n ∧ HasRows w' lo vs ∧ Mat w' n zs vs ∧ Below w.heap.size w w' := by
  obtain ⟨i0, hi, hz0, hz1, hz2⟩ : ∃ i, Try.prog.info? 29 = some i ∧ i.zero = some (.slice none 0 0) ∧ i.size = 1 ∧ i.bytes = 24 := by
    have h := infoR
    cases hi : Try.prog.info? 29 with
    | none => rw [hi] at h; cases h
    | some i => rw [hi] at h; simp at h; exact ⟨i, rfl, h.1, h.2.1, h.2.2⟩
  have HDB : Hid (type_of% (DB.made w (.slice fo (n + 1) fc) (.slice uo zs.length tc) (.slice wo zs.length wc))) := DB.made w (.slice fo (n + 1) fc) (.slice uo zs.length tc) (.slice wo zs.length wc)
  have HDC : Hid (type_of% hD) := hD
  have HFR : Hid (∀ wx (s : Nat), s < n → Below w.heap.size w wx → Calls Try.prog 32 #[.agg #[.slice fo (n + 1) fc, .slice uo zs.length tc, .slice wo zs.length wc], .int .i64 s] wx fun e w' => ∃ db D, e = .returned (.slice (some ⟨db, 0, none⟩) n n) ∧ IsDist n zs s D ∧ U64s w' db D ∧ Below wx.heap.size wx w') := fun wx s hs hwx => rFrom_calls n zs fo uo wo fc tc wc wx hz (h.keep hwx) s hs
  have hsq : (n : Int) * (n : Int) ≤ 1048576 := by
    have h1 : (n : Int) ≤ 1024 := by omega
    have h2 : (0 : Int) ≤ (n : Int) := by omega
    exact Int.le_trans (Int.mul_le_mul h1 h1 h2 (by omega)) (by decide)
  have hsq0 : (0 : Int) ≤ (n : Int) * (n : Int) := Int.mul_nonneg (by omega) (by omega)
  have hw : IntKind.i64.wrap ((n : Int) * (n : Int)) = (n : Int) * (n : Int) := by rw [IntKind.wrap_i64] <;> omega
  have hw1 : IntKind.i64.wrap ((n : Int) + 1 - 1) = (n : Int) := by rw [IntKind.wrap_i64] <;> omega
  have hw2 : IntKind.i64.wrap (n : Int) = (n : Int) := by rw [IntKind.wrap_i64] <;> omega
  have hle : ¬ (1048576 : Int) < (n : Int) * (n : Int) := by omega
  clear hD h hz hsq hsq0
  go_enter Try.func13, Try.ntmps13
  go_wp2_with fail
  generalize (w.alloc (.cells #[.slice fo (n + 1) fc, .slice uo zs.length tc, .slice wo zs.length wc] 24)).alloc (.cells #[.int .i64 0, .slice none 0 0] 46) = W0 at *
  refine (HDC.out W0 HDB.out.below).mono ?_
  rintro e w1 ⟨po, pc, rfl, hP, hb⟩
  have H1 : Hid (type_of% (HDB.out.keep hb)) := HDB.out.keep hb
  clear hb hP
  go_wp2_with fail
  have H2 : Hid (DB w (.slice fo (n + 1) fc) (.slice uo zs.length tc) (.slice wo zs.length wc) (w1.alloc (.cells #[.int .i64 0, .slice po 0 pc] 46))) := H1.out.keep (below1 _ _)
  generalize w1.alloc (.cells #[.int .i64 0, .slice po 0 pc] 46) = W1 at *
  refine (bad_calls 0 po 0 pc W1).mono ?_
  rintro e w2 ⟨rfl, hb⟩
  rw [show ((0 : Int) != 0 || decide (0 < 0)) = false from rfl]
  have H3 : Hid (type_of% (H2.out.keep hb)) := H2.out.keep hb
  clear hb
  obtain ⟨c0, c1, c2⟩ := box3 H3.out.box
  have cs := lt_of_get H3.out.box
  go_wp2_with fail
  clear c0 c1 c2 cs
  go_loopw [6, 7] (fun lv iv wr => ∃ (k : Nat) (lo : Option Addr) (lc : Nat) (vs : List Value), k ≤ n ∧ iv = .int .i64 k ∧ vs.length = k ∧ lv = .slice lo k lc ∧ wr.ownsRow w2.heap.size 29 1 (.slice lo k lc) k vs ∧ Mat wr n zs vs ∧ Below w2.heap.size w2 wr) (fun _ iv _ => n - (intOf iv).toNat)
  case atStart => exact ⟨0, none, 0, [], by omega, rfl, rfl, rfl, World.ownsRow_nil _ _ _ _, fun i v hv => by simp at hv, Below.refl _ _⟩
  case round =>
    obtain ⟨k, lo, lc, vs, hk, rfl, hvl, rfl, hO, hM, hb⟩ := hrel
    have HO : Hid (wr.ownsRow w2.heap.size 29 1 (.slice lo k lc) k vs ∧ Mat wr n zs vs ∧ vs.length = k) := ⟨hO, hM, hvl⟩
    have HB : Hid (Below w2.heap.size w2 wr ∧ DB w (.slice fo (n + 1) fc) (.slice uo zs.length tc) (.slice wo zs.length wc) wr) := ⟨hb, H3.out.keep hb⟩
    clear hO hM hb hvl
    by_cases hlt : k < n
    · obtain ⟨c0, c1, c2⟩ := box3 HB.out.2.box
      have cs := lt_of_get HB.out.2.box
      have i1 : (k : Int) < (n : Int) := by omega
      go_wp2_with fail
      refine (HFR.out wr k hlt HB.out.2.below).mono ?_
      rintro e w3 ⟨db, D, rfl, hDi, hU, hb3⟩
      have H4 : Hid (w3.ownsRow w2.heap.size 29 1 (.slice lo k lc) k vs ∧ Mat w3 n zs vs ∧ Below w2.heap.size w2 w3 ∧ IsDist n zs k D ∧ U64s w3 db D) := ⟨rown_below HO.out.1 hb3, HO.out.2.1.keep hb3, btr HB.out.1 hb3, hDi, hU⟩
      have hws : w2.heap.size ≤ w3.heap.size := H4.out.2.2.1.size
      clear hDi hU hb3 c0 c1 c2 cs
      go_wp2_with (at_builtin; refine wpList_append_own _ rfl _ _ 34 rfl w2.heap.size 29 i0 (.slice none 0 0) 1 24 Try.underlying34 hi hz0 hz1 hz2 rfl (by decide) (.slice lo k lc) k vs rfl (rown_below H4.out.1 ((Below.refl _ w3).alloc (Nat.le_refl _) _)) ⟨w3.heap.size, 0, none⟩ 1 1 [.slice (some ⟨db, 0, none⟩) n n] rfl rfl (rw_cell w3 (.slice (some ⟨db, 0, none⟩) n n)) (fun u hu => by simp at hu; subst hu; rfl) (by unfold maxLen; omega) (by omega) (by simp; omega) ?_; intro v5 w5 hown5 hgr5 _; have H5 : Hid (w5.ownsRow w2.heap.size 29 1 v5 (k + 1) (vs ++ [.slice (some ⟨db, 0, none⟩) n n]) ∧ (w3.alloc (.cells #[.slice (some ⟨db, 0, none⟩) n n] 29)).grownBy w5 (Value.ownBlock (.slice lo k lc))) := ⟨hown5, hgr5⟩; clear hown5 hgr5)
      obtain ⟨po2, pc2, hv5⟩ := rown_slice H5.out.1
      subst hv5
      have H6 : Hid (Mat w5 n zs (vs ++ [.slice (some ⟨db, 0, none⟩) n n]) ∧ Below w2.heap.size w2 w5) := by
        have hal : Below w3.heap.size w3 (w3.alloc (.cells #[.slice (some ⟨db, 0, none⟩) n n] 29)) := (Below.refl _ _).alloc (Nat.le_refl _) _
        have hro := rown_below H4.out.1 hal
        have hgo : ∀ g E, U64s w3 g E → U64s w5 g E := fun g E hg => by
          have h1 : U64s (w3.alloc (.cells #[.slice (some ⟨db, 0, none⟩) n n] 29)) g E := (hal.block _ (lt_of_get hg)).trans hg
          exact (H5.out.2.block g (lt_of_get h1) (fun e => rown_not_box hro h1 (by decide) e.symm)).trans h1
        refine ⟨fun i v hv => ?_, rbelow_grown (btr H4.out.2.2.1 hal) hro H5.out.2 (by simp; omega)⟩
        by_cases hi : i < vs.length
        · rw [List.getElem?_append_left hi] at hv
          obtain ⟨db0, D0, e0, q1, q2⟩ := H4.out.2.1 i v hv
          exact ⟨db0, D0, e0, q1, hgo _ _ q2⟩
        · rw [List.getElem?_append_right (by omega)] at hv
          have hi2 : i - vs.length = 0 := by
            rcases Nat.eq_zero_or_pos (i - vs.length) with h | h
            · exact h
            · rw [List.getElem?_eq_none (by simp; omega)] at hv; cases hv
          rw [hi2] at hv
          cases hv
          obtain rfl : i = k := by have := HO.out.2.2; omega
          exact ⟨db, D, rfl, H4.out.2.2.2.1, hgo _ _ H4.out.2.2.2.2⟩
      go_roundw
      case rel => exact ⟨k + 1, po2, pc2, _, by omega, by go_num, by simp [HO.out.2.2], rfl, H5.out.1, H6.out.1, H6.out.2⟩
      case measure => simp [intOf]; omega
    · obtain rfl : k = n := by omega
      obtain ⟨d0, d1, x0, x1⟩ := cell_two HB.out.2.res
      have ds := lt_of_get HB.out.2.res
      have HFIN : Hid (HasRows (lay2 wr (w.heap.size + 1) (.int .i64 0) (.slice none 0 0)) lo vs ∧ Mat (lay2 wr (w.heap.size + 1) (.int .i64 0) (.slice none 0 0)) k zs vs ∧ vs.length = k ∧ Below w.heap.size w (lay2 wr (w.heap.size + 1) (.int .i64 0) (.slice none 0 0))) := by
        have hvl := HO.out.2.2
        have hne := rown_not_box HO.out.1 HB.out.2.res (by decide)
        have ho := rown_keep (w' := lay2 wr (w.heap.size + 1) (.int .i64 0) (.slice none 0 0)) HO.out.1 (fun g hg => lay2_far (fun e => hne (by rw [hg, e])))
        refine ⟨?_, fun i v hv => ?_, hvl, lay2_below HB.out.2.below (by omega)⟩
        · have ho' := ho
          rw [← hvl] at ho'
          exact rows_of_rown ho'
        · obtain ⟨db, D, e, q1, q2⟩ := HO.out.2.1 i v hv
          refine ⟨db, D, e, q1, (lay2_far (fun e2 => ?_)).trans q2⟩
          have h1 := HB.out.2.res
          have h2 : wr.heap[db]? = _ := q2
          rw [e2, h1] at h2
          injection h2 with h2
          injection h2 with h3 h4
          exact absurd h4 (by decide)
      go_wp2
      refine bodyPost_ret (v := .tuple #[.slice lo k lc, .agg #[.int .i64 0, .slice none 0 0]]) (by simp [results, Try.results13, go_sem, d0, d1]) rfl ?_
      exact ⟨lo, lc, vs, rfl, HFIN.out.2.2.1, HFIN.out.1, HFIN.out.2.1, HFIN.out.2.2.2⟩
end Go.Proofs.Ytnkfggccahohpab

namespace Go.Proofs.Ytnkfggccahohpab
open Go.RowKit Go.Extern

attribute [local go_sem] Oper.semAt_some

set_option maxRecDepth 100000 in
set_option maxHeartbeats 4000000 in
theorem sameMatrix_yes (ao bo : Option Addr) (ac bc n : Nat) (zs : List (Int × Int × Int)) (vs us : List Value) (w : World) (hv : vs.length = n) (hu : us.length = n) (ha : HasRows w ao vs) (hb : HasRows w bo us) (ma : Mat w n zs vs) (mb : Mat w n zs us) (hn : n ≤ 65536) :
    Calls Try.prog 16 #[.slice ao n ac, .slice bo n bc] w fun e w' => e = .returned (.bool true) ∧ Below w.heap.size w w' := by
  have HA : Hid (HasRows w ao vs ∧ HasRows w bo us ∧ Mat w n zs vs ∧ Mat w n zs us) := ⟨ha, hb, ma, mb⟩
  have HL : Hid (vs.length = n ∧ us.length = n) := ⟨hv, hu⟩
  clear ha hb ma mb hv hu
  go_enter Try.func16, Try.ntmps16
  go_wp2_with fail
  go_loopw [13] (fun iv wr => ∃ k : Nat, k ≤ n ∧ iv = .int .i64 k ∧ Below w.heap.size w wr) (fun iv _ => n - (intOf iv).toNat)
  case atStart => exact ⟨0, Nat.zero_le _, rfl, Below.refl _ _⟩
  case round =>
    obtain ⟨k, hk, rfl, hbw⟩ := hrel
    have HBW : Hid (Below w.heap.size w wr) := hbw
    clear hbw
    by_cases hlt : k < n
    · obtain ⟨v, hv⟩ : ∃ v, vs[k]? = some v := ⟨vs[k]'(by rw [HL.out.1]; exact hlt), List.getElem?_eq_getElem _⟩
      obtain ⟨u, hu⟩ : ∃ u, us[k]? = some u := ⟨us[k]'(by rw [HL.out.2]; exact hlt), List.getElem?_eq_getElem _⟩
      obtain ⟨b1, e1, ⟨_, l1'⟩, q1⟩ := (HA.out.1.keep HBW.out) k v hv
      obtain ⟨b2, e2, ⟨_, l2'⟩, q2⟩ := (HA.out.2.1.keep HBW.out) k u hu
      obtain ⟨d1, D, rfl, h1, u1⟩ := HA.out.2.2.1 k v hv
      obtain ⟨d2, D2, rfl, h2, u2⟩ := HA.out.2.2.2 k u hu
      obtain rfl := h2.unique h1
      subst e1
      subst e2
      have l1 := lt_of_get l1'
      have l2 := lt_of_get l2'
      clear l1' l2'
      have HSR : Hid (∀ wx, Below w.heap.size w wx → Calls Try.prog 15 #[.slice (some ⟨d1, 0, none⟩) n n, .slice (some ⟨d2, 0, none⟩) n n] wx fun e w' => e = .returned (.bool true) ∧ Below wx.heap.size wx w') := fun wx hwx => by
        have hl := h1.1
        have h := sameRow_yes (some ⟨d1, 0, none⟩) (some ⟨d2, 0, none⟩) n n D2 wx (URow.keep (Or.inr ⟨d1, rfl, u1⟩) hwx) (URow.keep (Or.inr ⟨d2, rfl, u2⟩) hwx) (by rw [hl]; unfold maxLen; omega)
        rw [hl] at h
        exact h
      have i1 : (k : Int) < (n : Int) := by omega
      have i2 : (0 : Int) ≤ (k : Int) := by omega
      clear hv hu h1 h2 u1 u2
      go_wp2_with fail
      go_region_held3 (fun w' => w'.cell? ⟨b1, k, none⟩ = some (.slice (some ⟨d1, 0, none⟩) n n) ∧ w'.cell? ⟨b2, k, none⟩ = some (.slice (some ⟨d2, 0, none⟩) n n)) (go_keep) (first
        | (go_at_call 15; refine (HSR.out _ HBW.out.drew).mono ?_; rintro e w3 ⟨rfl, hb3⟩; have H3 : Hid (Below w.heap.size w w3) := HBW.out.drew.trans (hb3.mono HBW.out.size); have r1 := (hb3.cell (p := ⟨b1, k, none⟩) l1).trans q1; have r2 := (hb3.cell (p := ⟨b2, k, none⟩) l2).trans q2; clear hb3))
      go_wp2
      go_roundw
      case rel => exact ⟨k + 1, by omega, by go_num, H3.out⟩
      case measure => simp [intOf]; omega
    · go_wp2
      go_ret
      exact ⟨rfl, HBW.out⟩
end Go.Proofs.Ytnkfggccahohpab
