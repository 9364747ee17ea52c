/- search.Matrix at right arrays of few nodes. -/
import Derived.Test.YtefcmpdnlbpjpaaSeY
namespace Go.Proofs.Ytefcmpdnlbpjpaa
open Go.RowKit Go.Extern

attribute [local go_sem] Oper.semAt_some

/-- a block that is none of a finder's. -/
structure Free (L : FL) (sv : Value) (b : Nat) : Prop where
  fi : b ≠ L.fi
  sb : b ≠ L.sb
  pb : b ≠ L.pb
  kb : b ≠ L.kb
  ab : b ≠ L.ab
  hb : b ≠ L.hb
  wb : b ≠ L.wb
  own : sv.ownBlock ≠ some b
theorem Fnd.far {B b : Nat} {w w' : World} {n : Nat} {L : FL} {c0 c1 c2 sv : Value} {S : FS} (h : Fnd B w n L c0 c1 c2 sv S) (hf : Free L sv b) (hk : ∀ k, k ≠ b → w'.heap[k]? = w.heap[k]?) : Fnd B w' n L c0 c1 c2 sv S := by
  refine ⟨(hk _ hf.fi.symm).trans h.box, h.st.keep fun k hl e => hk k ?_, h.hp.keep fun k hl e => hk k ?_, h.hops.keep (hk _ hf.kb.symm), h.ahead.keep (hk _ hf.ab.symm), h.ap, h.up, h.own⟩
  · rcases e with rfl | rfl
    · exact hf.sb.symm
    · exact hf.pb.symm
  · rcases e with rfl | rfl | e
    · exact hf.hb.symm
    · exact hf.wb.symm
    · intro e2
      subst e2
      exact hf.own e
theorem Free.fx {b : Nat} {w w' : World} {L : FL} {sv sv' : Value} (hf : Free L sv b) (hx : Fx L sv sv' w w') (hb : b < w.heap.size) : Free L sv' b ∧ w'.heap[b]? = w.heap[b]? :=
  ⟨⟨hf.fi, hf.sb, hf.pb, hf.kb, hf.ab, hf.hb, hf.wb, fun e => hf.own (hx.own b hb e)⟩, hx.block b hb hf.sb hf.pb hf.kb hf.ab hf.hb hf.wb hf.own⟩
theorem Free.new {B b : Nat} {w : World} {n : Nat} {L : FL} {c0 c1 c2 sv sv' : Value} {S : FS} (h : Fnd B w n L c0 c1 c2 sv S) (hb : w.heap.size ≤ b) (ho : sv'.ownBlock ≠ some b) : Free L sv' b := by
  obtain ⟨l1, l2, l3, l4, l5, l6, l7⟩ := h.lts
  exact ⟨by omega, by omega, by omega, by omega, by omega, by omega, by omega, ho⟩
/-- rows as cells. -/
def RowsAt (w : World) (rb : Nat) (vs : List Value) : Prop := w.heap[rb]? = some (.cells vs.toArray 44)
theorem RowsAt.at {w : World} {rb : Nat} {vs : List Value} (h : RowsAt w rb vs) {k : Nat} {v : Value} (hk : vs[k]? = some v) : w.cell? ⟨rb, k, none⟩ = some v ∧ rb < w.heap.size ∧ w.frozen? ⟨rb, k, none⟩ = false := by
  refine ⟨?_, lt_of_get h, ?_⟩
  · simp [World.cell?, show w.heap[rb]? = _ from h, hk]
  · simp [World.frozen?, show w.heap[rb]? = _ from h]
theorem RowsAt.apart {w : World} {rb db : Nat} {vs : List Value} {D : List Int} (h : RowsAt w rb vs) (hU : U64s w db D) : db ≠ rb := fun e => by
  have h1 : w.heap[rb]? = _ := h
  have h2 : w.heap[db]? = _ := hU
  rw [e, h1] at h2
  injection h2 with h2
  injection h2 with h3 h4
  exact absurd h4 (by decide)
/-- the rows are the distances. -/
def Mat (w : World) (n : Nat) (zs : List (Int × Int × Int)) (vs : List Value) : Prop := ∀ (i : Nat) (v : Value), vs[i]? = some v → ∃ db D, v = .slice (some ⟨db, 0, none⟩) n n ∧ IsDist n zs i D ∧ U64s w db D
theorem Mat.keep {w w' : World} {n : Nat} {zs : List (Int × Int × Int)} {vs : List Value} (h : Mat w n zs vs) (hb : Below w.heap.size w w') : Mat w' n zs vs := fun i v hv => by
  obtain ⟨db, D, e, hD, hU⟩ := h i v hv
  exact ⟨db, D, e, hD, (hb.block _ (lt_of_get hU)).trans hU⟩
/-- the rows are new memory besides. -/
def MatN (w : World) (B n : Nat) (zs : List (Int × Int × Int)) (vs : List Value) : Prop := ∀ (i : Nat) (v : Value), vs[i]? = some v → ∃ db D, v = .slice (some ⟨db, 0, none⟩) n n ∧ IsDist n zs i D ∧ U64s w db D ∧ B ≤ db
theorem MatN.mat {w : World} {B n : Nat} {zs : List (Int × Int × Int)} {vs : List Value} (h : MatN w B n zs vs) : Mat w n zs vs := fun i v hv => by
  obtain ⟨db, D, e, hD, hU, _⟩ := h i v hv
  exact ⟨db, D, e, hD, hU⟩
theorem infoR : (Try.prog.info? 44).map (fun i => (i.zero, i.size, i.bytes)) = some (some (.slice none 0 0), 1, 24) := by kernel_rfl
theorem made_rows (w : World) (n : Nat) : RowsAt (w.alloc (.cells (madeCells #[.slice none 0 0] n) 44)) w.heap.size (List.replicate n (.slice none 0 0)) := by
  unfold RowsAt
  rw [heap_new]
  congr 2
  have := toList_madeCells_one (.slice none 0 0) n
  apply Array.ext'
  rw [this]
/-- what holds between two rows. -/
def MI (B n : Nat) (zs : List (Int × Int × Int)) (L : FL) (c0 c1 c2 : Value) (rb k : Nat) (w : World) : Prop :=
  ∃ sv S vs, vs.length = k ∧ Fnd B w n L c0 c1 c2 sv S ∧ RowsAt w rb (vs ++ List.replicate (n - k) (.slice none 0 0)) ∧ Free L sv rb ∧ ∀ (i : Nat) (v : Value), vs[i]? = some v → ∃ db D, v = .slice (some ⟨db, 0, none⟩) n n ∧ IsDist n zs i D ∧ U64s w db D ∧ Free L sv db ∧ B ≤ db
theorem MI.next {B n : Nat} {zs : List (Int × Int × Int)} {L : FL} {c0 c1 c2 : Value} {rb k : Nat} {w w' : World} {sv sv' : Value} {S S' : FS} {vs : List Value} (hB : B ≤ w.heap.size) (hk : k < n) (h1 : vs.length = k) (h2 : Fnd B w n L c0 c1 c2 sv S) (h3 : RowsAt w rb (vs ++ List.replicate (n - k) (.slice none 0 0))) (h4 : Free L sv rb) (h5 : ∀ (i : Nat) (v : Value), vs[i]? = some v → ∃ db D, v = .slice (some ⟨db, 0, none⟩) n n ∧ IsDist n zs i D ∧ U64s w db D ∧ Free L sv db ∧ B ≤ db)
    {db : Nat} {D : List Int} (hD : IsDist n zs k D) (hU : U64s w' db D) (hdb : w.heap.size ≤ db) (hx : Fx L sv sv' w w') (ho : sv'.ownBlock ≠ some db) (hF : Fnd B w' n L c0 c1 c2 sv' S') : (RowsAt w' rb (vs ++ List.replicate (n - k) (.slice none 0 0)) ∧ rb < w.heap.size) ∧ MI B n zs L c0 c1 c2 rb (k + 1) (w'.setCell ⟨rb, k, none⟩ (.slice (some ⟨db, 0, none⟩) n n)) := by
  have hrl := lt_of_get h3
  obtain ⟨g1, g2⟩ := h4.fx hx hrl
  have hR : RowsAt w' rb (vs ++ List.replicate (n - k) (.slice none 0 0)) := g2.trans h3
  have hfar : ∀ g, g ≠ rb → (w'.setCell ⟨rb, k, none⟩ (.slice (some ⟨db, 0, none⟩) n n)).heap[g]? = w'.heap[g]? := fun g hg => heap_setCell_other _ _ _ _ hg
  refine ⟨⟨hR, hrl⟩, sv', S', vs ++ [.slice (some ⟨db, 0, none⟩) n n], by simp [h1], hF.far g1 hfar, ?_, g1, fun i v hv => ?_⟩
  · unfold RowsAt
    rw [Go.heap_setCell_same _ _ k _ _ _ hR]
    congr 2
    rw [List.setIfInBounds_toArray]
    congr 1
    obtain ⟨m, hm⟩ : ∃ m, n - k = m + 1 := ⟨n - k - 1, by omega⟩
    rw [hm, show n - (k + 1) = m by omega, List.replicate_succ, List.set_append_right _ _ (by omega), h1, Nat.sub_self]
    simp
  · by_cases hi : i < vs.length
    · rw [List.getElem?_append_left hi] at hv
      obtain ⟨db0, D0, e0, q1, q2, q3, q4⟩ := h5 i v hv
      obtain ⟨r1, r2⟩ := q3.fx hx (lt_of_get q2)
      have hU0 : U64s w' db0 D0 := r2.trans q2
      exact ⟨db0, D0, e0, q1, (hfar db0 (hR.apart hU0)).trans hU0, r1, q4⟩
    · rw [List.getElem?_append_right (by omega)] at hv
      have hi2 : i - vs.length = 0 := by
        rcases Nat.eq_zero_or_pos (i - vs.length) with h | h
        · exact h
        · rw [List.getElem?_eq_none (by simp; omega)] at hv; cases hv
      rw [hi2] at hv
      cases hv
      obtain rfl : i = k := by omega
      exact ⟨db, D, rfl, hD, (hfar db (hR.apart hU)).trans hU, Free.new h2 hdb ho, Nat.le_trans hB hdb⟩

set_option maxRecDepth 100000 in
set_option maxHeartbeats 8000000 in
theorem sMatrix_new (n : Nat) (zs : List (Int × Int × Int)) (fo uo wo : Option Addr) (fc tc wc : Nat) (w : World) (hz : Fine n zs) (h : CsrIn w n zs fo uo wo fc tc wc) (hn : n ≤ 1024) :
    Calls Try.prog 7 #[.agg #[.slice fo (n + 1) fc, .slice uo zs.length tc, .slice wo zs.length wc]] w fun e w' => ∃ rb vs, e = .returned (.tuple #[.slice (some ⟨rb, 0, none⟩) n n, .nilIface]) ∧ vs.length = n ∧ RowsAt w' rb vs ∧ (MatN w' w.heap.size n zs vs ∧ w.heap.size ≤ rb) ∧ Below w.heap.size w w' := by
  have hmk := run_make_row' (P := Try.prog) 38 44 (.slice none 0 0) 24 Try.underlying38 infoR rfl .i64 .i64 n (by omega) (by omega)
  obtain ⟨W0, hW0⟩ : ∃ W0, w.alloc (.cells #[.slice fo (n + 1) fc, .slice uo zs.length tc, .slice wo zs.length wc] 27) = W0 := ⟨_, rfl⟩
  have HW0 : Hid (w.alloc (.cells #[.slice fo (n + 1) fc, .slice uo zs.length tc, .slice wo zs.length wc] 27) = W0) := hW0
  have hB0 : Below w.heap.size w W0 := by rw [← hW0]; exact (Below.refl _ w).alloc (Nat.le_refl _) _
  have HC : Hid (∀ wx, Below w.heap.size w wx → CsrIn wx n zs fo uo wo fc tc wc) := fun wx hb => h.keep hb
  have HNF : Hid (Calls Try.prog 21 #[.agg #[.slice fo (n + 1) fc, .slice uo zs.length tc, .slice wo zs.length wc], .slice none 0 0] W0 fun e w' => ∃ L S, e = .returned (.tuple #[.pointer (some ⟨L.fi, 0, none⟩), .nilIface]) ∧ Fnd W0.heap.size w' n L (.slice fo (n + 1) fc) (.slice uo zs.length tc) (.slice wo zs.length wc) (.slice none 0 0) S ∧ Below W0.heap.size W0 w') := newFinder_good n zs fo uo wo fc tc wc W0 hz (h.keep hB0) none 0 [] ⟨none, 0, rfl, fun j q hj => by simp at hj⟩ (by simp) (fun v hv => by simp at hv)
  have HZ : Hid (Fine n zs) := hz
  have HB0 : Hid (Below w.heap.size w W0) := hB0
  have hsq : (n : Int) * (n : Int) ≤ 1048576 := by
    have h1 : (n : Int) ≤ 1024 := by omega
    have h2 : (0 : Int) ≤ (n : Int) := by omega
    calc (n : Int) * (n : Int) ≤ 1024 * 1024 := Int.mul_le_mul h1 h1 h2 (by omega)
      _ = 1048576 := by decide
  have hsq0 : (0 : Int) ≤ (n : Int) * (n : Int) := Int.mul_nonneg (by omega) (by omega)
  have hw : IntKind.i64.wrap ((n : Int) * (n : Int)) = (n : Int) * (n : Int) := by rw [IntKind.wrap_i64] <;> omega
  have hle : ¬ (1048576 : Int) < (n : Int) * (n : Int) := by omega
  clear hW0 hB0 h hz hsq hsq0
  go_enter Try.func7, Try.ntmps7
  go_wp2_with fail
  rw [HW0.out]
  refine HNF.out.mono ?_
  rintro e w1 ⟨L, S, rfl, hF, hb1⟩
  have H1 : Hid (Fnd W0.heap.size w1 n L (.slice fo (n + 1) fc) (.slice uo zs.length tc) (.slice wo zs.length wc) (.slice none 0 0) S ∧ Below W0.heap.size W0 w1) := ⟨hF, hb1⟩
  clear hF hb1
  go_wp2_with fail
  refine (fnodes_calls H1.out.1).mono ?_
  rintro e w2 ⟨rfl, rfl⟩
  go_wp2_with fail
  obtain ⟨W, hW⟩ : ∃ W, w2.alloc (.cells (madeCells #[.slice none 0 0] n) 44) = W := ⟨_, rfl⟩
  have HW : Hid (w2.alloc (.cells (madeCells #[.slice none 0 0] n) 44) = W) := hW
  have HM0 : Hid (MI W0.heap.size n zs L (.slice fo (n + 1) fc) (.slice uo zs.length tc) (.slice wo zs.length wc) w2.heap.size 0 W ∧ Below W0.heap.size W0 W ∧ W0.heap.size ≤ w2.heap.size) := by
    have hb : Below w2.heap.size w2 W := by rw [← hW]; exact (Below.refl _ _).alloc (Nat.le_refl _) _
    refine ⟨⟨.slice none 0 0, S, [], rfl, H1.out.1.below hb, ?_, Free.new H1.out.1 (Nat.le_refl _) (by simp [Value.ownBlock]), fun i v hv => by simp at hv⟩, btr H1.out.2 hb, H1.out.2.size⟩
    rw [List.nil_append, Nat.sub_zero, ← hW]
    exact made_rows w2 n
  rw [HW.out]
  clear hW
  generalize w2.heap.size = rb at *
  go_loopw [28] (fun iv wr => ∃ k : Nat, k ≤ n ∧ iv = .int .i64 k ∧ MI W0.heap.size n zs L (.slice fo (n + 1) fc) (.slice uo zs.length tc) (.slice wo zs.length wc) rb k wr ∧ Below W0.heap.size W0 wr) (fun iv _ => n - (intOf iv).toNat)
  case atStart => exact ⟨0, by omega, rfl, HM0.out.1, HM0.out.2.1⟩
  case round =>
    obtain ⟨k, hk, rfl, hM, hb⟩ := hrel
    have HM : Hid (MI W0.heap.size n zs L (.slice fo (n + 1) fc) (.slice uo zs.length tc) (.slice wo zs.length wc) rb k wr ∧ Below W0.heap.size W0 wr) := ⟨hM, hb⟩
    clear hM hb
    by_cases hlt : k < n
    · obtain ⟨sv, S1, vs, m1, m2, m3, m4, m5⟩ := HM.out.1
      have HDS : Hid (type_of% (distances_calls m2 HM.out.2.size HZ.out (fun wx hx => HC.out wx (btr HB0.out (HM.out.2.trans hx))) k hlt)) := distances_calls m2 HM.out.2.size HZ.out (fun wx hx => HC.out wx (btr HB0.out (HM.out.2.trans hx))) k hlt
      have HNX : Hid (∀ w' db D sv' S', IsDist n zs k D → U64s w' db D → wr.heap.size ≤ db → Fx L sv sv' wr w' → sv'.ownBlock ≠ some db → Fnd W0.heap.size w' n L (.slice fo (n + 1) fc) (.slice uo zs.length tc) (.slice wo zs.length wc) sv' S' → (RowsAt w' rb (vs ++ List.replicate (n - k) (.slice none 0 0)) ∧ rb < wr.heap.size) ∧ MI W0.heap.size n zs L (.slice fo (n + 1) fc) (.slice uo zs.length tc) (.slice wo zs.length wc) rb (k + 1) (w'.setCell ⟨rb, k, none⟩ (.slice (some ⟨db, 0, none⟩) n n))) := fun w' db D sv' S' q1 q2 q3 q4 q5 q6 => MI.next HM.out.2.size hlt m1 m2 m3 m4 m5 q1 q2 q3 q4 q5 q6
      have HVL : Hid (vs.length = k) := m1
      have i1 : (k : Int) < (n : Int) := by omega
      have i2 : (0 : Int) ≤ (k : Int) := by omega
      clear m1 m2 m3 m4 m5
      go_wp2_with fail
      refine HDS.out.mono ?_
      rintro e w5 ⟨db, D, sv', S', rfl, hD, ⟨hU, hdb, hx, ho⟩, hF, hb5⟩
      obtain ⟨⟨hR, hrl⟩, hM5⟩ := HNX.out w5 db D sv' S' hD hU hdb hx ho hF
      have H5 : Hid (MI W0.heap.size n zs L (.slice fo (n + 1) fc) (.slice uo zs.length tc) (.slice wo zs.length wc) rb (k + 1) (w5.setCell ⟨rb, k, none⟩ (.slice (some ⟨db, 0, none⟩) n n)) ∧ Below W0.heap.size W0 (w5.setCell ⟨rb, k, none⟩ (.slice (some ⟨db, 0, none⟩) n n))) := ⟨hM5, (HM.out.2.trans hb5).setCell (p := ⟨rb, k, none⟩) HM0.out.2.2 _⟩
      obtain ⟨c1, c2, c3⟩ := hR.at (k := k) (v := .slice none 0 0) (by rw [List.getElem?_append_right (by have := HVL.out; omega), HVL.out, Nat.sub_self, List.getElem?_replicate, if_pos (by omega)])
      clear hD hU hdb hx ho hF hb5 hR hrl hM5 HDS HNX
      go_wp2
      go_roundw
      case rel => exact ⟨k + 1, by omega, by go_num, H5.out.1, H5.out.2⟩
      case measure => simp [intOf]; omega
    · obtain rfl : k = n := by omega
      go_wp2
      go_ret2
      obtain ⟨sv, S1, vs, m1, m2, m3, m4, m5⟩ := HM.out.1
      rw [Nat.sub_self, List.replicate_zero, List.append_nil] at m3
      exact ⟨rb, vs, rfl, m1, m3, ⟨fun i v hv => by
        obtain ⟨db, D, e, q1, q2, _, q3⟩ := m5 i v hv
        exact ⟨db, D, e, q1, q2, Nat.le_trans HB0.out.size q3⟩, Nat.le_trans HB0.out.size HM0.out.2.2⟩, btr HB0.out HM.out.2⟩
theorem sMatrix_good (n : Nat) (zs : List (Int × Int × Int)) (fo uo wo : Option Addr) (fc tc wc : Nat) (w : World) (hz : Fine n zs) (h : CsrIn w n zs fo uo wo fc tc wc) (hn : n ≤ 1024) :
    Calls Try.prog 7 #[.agg #[.slice fo (n + 1) fc, .slice uo zs.length tc, .slice wo zs.length wc]] w fun e w' => ∃ rb vs, e = .returned (.tuple #[.slice (some ⟨rb, 0, none⟩) n n, .nilIface]) ∧ vs.length = n ∧ RowsAt w' rb vs ∧ Mat w' n zs vs ∧ Below w.heap.size w w' := by
  refine (sMatrix_new n zs fo uo wo fc tc wc w hz h hn).mono ?_
  rintro e w' ⟨rb, vs, h1, h2, h3, h4, h5⟩
  exact ⟨rb, vs, h1, h2, h3, h4.1.mat, h5⟩
end Go.Proofs.Ytefcmpdnlbpjpaa
