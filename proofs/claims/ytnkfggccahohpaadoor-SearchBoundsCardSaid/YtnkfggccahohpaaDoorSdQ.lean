/- viaductref08.Run, walked. -/
import Derived.Test.YtnkfggccahohpaaDoorSdA
namespace Go.Proofs.YtnkfggccahohpaaDoor
open Go.RowKit Go.Extern

attribute [local go_sem] Oper.semAt_some

/-- what Run answers. -/
def RunAns (n : Nat) (zs : List (Int × Int × Int)) (hops se mo : Int) (s : Nat) (S0 : FS) (w : World) (e : Ending) (w' : World) : Prop := ∃ db kb hb sb D K Ha Se t S, e = .returned (.agg #[.slice (some ⟨db, 0, none⟩) n n, .slice (some ⟨kb, 0, none⟩) n n, .slice (some ⟨hb, 0, none⟩) n n, .slice (some ⟨sb, 0, none⟩) n n]) ∧ (Steps n zs hops mo (S0.begin n s) t S ∧ RunEnd n se mo t S ∧ RR n S D K Ha Se) ∧ (U64s w' db D ∧ IRow w' kb K ∧ Bools w' hb Ha ∧ Bools w' sb Se) ∧ Below w.heap.size w w'

set_option maxRecDepth 100000 in
set_option maxHeartbeats 8000000 in
theorem rRun_calls (n : Nat) (zs : List (Int × Int × Int)) (rb rc s : Nat) (hops se mo : Int) (w : World) (hz : Fine n zs) (hs : s < n) (hR : RowsIn w rb n zs) (S0 : FS) :
    Calls Tryd.prog 36 #[.slice (some ⟨rb, 0, none⟩) n rc, .int .i64 s, .int .i64 hops, .int .i64 se, .int .u64 mo] w fun e w' => RunAns n zs hops se mo s S0 w e w' := by
  have hn := hz.few
  obtain ⟨W0, hW0⟩ : ∃ W0, w.alloc (.cells #[.slice none 0 0, .slice none 0 0, .slice none 0 0, .slice none 0 0] 101) = W0 := ⟨_, rfl⟩
  have HW0 : Hid (w.alloc (.cells #[.slice none 0 0, .slice none 0 0, .slice none 0 0, .slice none 0 0] 101) = W0) := hW0
  have hB0 : Below w.heap.size w W0 := by rw [← hW0]; exact (Below.refl _ w).alloc (Nat.le_refl _) _
  have HRB : Hid (W0.heap[w.heap.size]? = some (.cells #[.slice none 0 0, .slice none 0 0, .slice none 0 0, .slice none 0 0] 101)) := by rw [← hW0]; exact heap_new _ _
  have HB0 : Hid (Below w.heap.size w W0) := hB0
  have HS0 : Hid (w.heap.size + 1 = W0.heap.size) := by show _ = _; rw [← hW0]; simp
  have HRW : Hid (RowsIn w rb n zs) := hR
  have HZ : Hid (Fine n zs) := hz
  have HI0 : Hid (SInv n zs hops s 0 (S0.begin n s)) := start_inv hs _ rfl rfl
  have HBG : Hid (RR n (S0.begin n s) (List.replicate n 0) (List.replicate n 0) ((List.replicate n false).set s true) (List.replicate n false)) := RR.begin hs S0
  have hmk1 := fun wx => run_make_row' (P := Tryd.prog) 27 48 (.int .u64 0) 8 Tryd.underlying27 infoU rfl .i64 .i64 n (by omega) (by omega) wx
  have hmk2 := fun wx => run_make_row' (P := Tryd.prog) 22 3 (.int .i64 0) 8 Tryd.underlying22 infoJ rfl .i64 .i64 n (by omega) (by omega) wx
  have hmk3 := fun wx => run_make_row' (P := Tryd.prog) 99 4 (.bool false) 1 Tryd.underlying99 infoB rfl .i64 .i64 n (by omega) (by omega) wx
  clear hz hR hW0 hB0
  go_enter Tryd.func36, Tryd.ntmps36
  go_upto_region 2 with fail
  rw [HW0.out]
  go_cut [12] (fun c wx => ∃ bx db kb hb sb, c = .pointer (some ⟨bx, 0, none⟩) ∧ RI W0.heap.size n wx bx db kb hb sb (List.replicate n 0) (List.replicate n 0) (List.replicate n false) (List.replicate n false) ∧ Below W0.heap.size W0 wx)
  case first =>
    refine wp_region_held_drew (S := fun _ => True) (by kernel_rfl) trivial (fun _ => ?_)
    refine wpAnyH_take (i := 0) (oi := { dst := some 20, op := Op.move (Operand.tmp 11), type := 3, pos := "ref.go:84", after := #[], guard := none }) (v := ?v0) rfl (by kernel_rfl) (by kernel_rfl) (by kernel_rfl) (fun _ _ _ h => h) (Or.inl ⟨by rfl, ?h0⟩) trivial ?r0
    case h0 => ((intro wz hSw; go_simp); try (with_reducible rfl))
    simp only [Act.put, List.setIfInBounds_toArray, List.set_cons_zero, List.set_cons_succ]
    refine wpAnyH_take (i := 2) (oi := { dst := some 22, op := Op.move (Operand.tmp 11), type := 3, pos := "ref.go:84", after := #[], guard := none }) (v := ?v2) rfl (by kernel_rfl) (by kernel_rfl) (by kernel_rfl) (fun _ _ _ h => h) (Or.inl ⟨by rfl, ?h2⟩) trivial ?r2
    case h2 => ((intro wz hSw; go_simp); try (with_reducible rfl))
    simp only [Act.put, List.setIfInBounds_toArray, List.set_cons_zero, List.set_cons_succ]
    refine wpAnyH_take (i := 4) (oi := { dst := some 24, op := Op.move (Operand.tmp 11), type := 3, pos := "ref.go:84", after := #[], guard := none }) (v := ?v4) rfl (by kernel_rfl) (by kernel_rfl) (by kernel_rfl) (fun _ _ _ h => h) (Or.inl ⟨by rfl, ?h4⟩) trivial ?r4
    case h4 => ((intro wz hSw; go_simp); try (with_reducible rfl))
    simp only [Act.put, List.setIfInBounds_toArray, List.set_cons_zero, List.set_cons_succ]
    refine wpAnyH_take (i := 6) (oi := { dst := some 26, op := Op.move (Operand.tmp 11), type := 3, pos := "ref.go:84", after := #[], guard := none }) (v := ?v6) rfl (by kernel_rfl) (by kernel_rfl) (by kernel_rfl) (fun _ _ _ h => h) (Or.inl ⟨by rfl, ?h6⟩) trivial ?r6
    case h6 => ((intro wz hSw; go_simp); try (with_reducible rfl))
    simp only [Act.put, List.setIfInBounds_toArray, List.set_cons_zero, List.set_cons_succ]
    refine wpAnyH_layse ⟨9, { dst := some 12, op := Op.alloc 101, type := 0, pos := "ref.go:84", after := #[], guard := none }, fun b => .pointer (some ⟨b, 0, none⟩), .cells #[.slice none 0 0, .slice none 0 0, .slice none 0 0, .slice none 0 0] 101⟩ 4 [⟨1, { dst := some 21, op := Op.makeSlice 27 (Operand.tmp 20) (Operand.tmp 20), type := 27, pos := "ref.go:84", after := #[{ on := 0, ground := Ground.data }, { on := 0, ground := Ground.data }], guard := none }, fun b => .slice (some ⟨b, 0, none⟩) n n, .cells (madeCells #[.int .u64 0] n) 48⟩, ⟨3, { dst := some 23, op := Op.makeSlice 22 (Operand.tmp 22) (Operand.tmp 22), type := 22, pos := "ref.go:84", after := #[{ on := 2, ground := Ground.data }, { on := 2, ground := Ground.data }], guard := none }, fun b => .slice (some ⟨b, 0, none⟩) n n, .cells (madeCells #[.int .i64 0] n) 3⟩, ⟨5, { dst := some 25, op := Op.makeSlice 99 (Operand.tmp 24) (Operand.tmp 24), type := 99, pos := "ref.go:84", after := #[{ on := 4, ground := Ground.data }, { on := 4, ground := Ground.data }], guard := none }, fun b => .slice (some ⟨b, 0, none⟩) n n, .cells (madeCells #[.bool false] n) 4⟩, ⟨7, { dst := some 27, op := Op.makeSlice 99 (Operand.tmp 26) (Operand.tmp 26), type := 99, pos := "ref.go:84", after := #[{ on := 6, ground := Ground.data }, { on := 6, ground := Ground.data }], guard := none }, fun b => .slice (some ⟨b, 0, none⟩) n n, .cells (madeCells #[.bool false] n) 4⟩] _ _ _ 2 rfl (by kernel_rfl) ?hi ?hnd (lays_apart (by kernel_rfl)) ?hsel ?hL (fun _ _ => trivial) ?hA ?hB
    case hi =>
      intro r hr
      simp only [List.mem_cons, List.not_mem_nil, or_false] at hr
      rcases hr with rfl | rfl | rfl | rfl | rfl <;> rfl
    case hnd => simp
    case hsel =>
      intro r hr cs b h
      simp only [List.mem_cons, List.not_mem_nil, or_false] at hr
      rcases hr with rfl | rfl | rfl | rfl | rfl <;> cases h
    case hL =>
      intro r hr
      simp only [List.mem_cons, List.not_mem_nil, or_false] at hr
      rcases hr with rfl | rfl | rfl | rfl | rfl
      all_goals exact ⟨by rfl, fun wz => by go_simp⟩
    case hA =>
      intro β w' hβ hβn hbl
      have g9 := hβ _ List.mem_cons_self
      have g1 := hβ _ (List.mem_cons_of_mem _ List.mem_cons_self)
      have g3 := hβ _ (List.mem_cons_of_mem _ (List.mem_cons_of_mem _ List.mem_cons_self))
      have g5 := hβ _ (List.mem_cons_of_mem _ (List.mem_cons_of_mem _ (List.mem_cons_of_mem _ List.mem_cons_self)))
      have g7 := hβ _ (List.mem_cons_of_mem _ (List.mem_cons_of_mem _ (List.mem_cons_of_mem _ (List.mem_cons_of_mem _ List.mem_cons_self))))
      have n91 := hβn _ List.mem_cons_self _ (List.mem_cons_of_mem _ List.mem_cons_self) (show (9 : Nat) ≠ 1 by decide)
      have n93 := hβn _ List.mem_cons_self _ (List.mem_cons_of_mem _ (List.mem_cons_of_mem _ List.mem_cons_self)) (show (9 : Nat) ≠ 3 by decide)
      have n95 := hβn _ List.mem_cons_self _ (List.mem_cons_of_mem _ (List.mem_cons_of_mem _ (List.mem_cons_of_mem _ List.mem_cons_self))) (show (9 : Nat) ≠ 5 by decide)
      have n97 := hβn _ List.mem_cons_self _ (List.mem_cons_of_mem _ (List.mem_cons_of_mem _ (List.mem_cons_of_mem _ (List.mem_cons_of_mem _ List.mem_cons_self)))) (show (9 : Nat) ≠ 7 by decide)
      have n13 := hβn _ (List.mem_cons_of_mem _ List.mem_cons_self) _ (List.mem_cons_of_mem _ (List.mem_cons_of_mem _ List.mem_cons_self)) (show (1 : Nat) ≠ 3 by decide)
      have n15 := hβn _ (List.mem_cons_of_mem _ List.mem_cons_self) _ (List.mem_cons_of_mem _ (List.mem_cons_of_mem _ (List.mem_cons_of_mem _ List.mem_cons_self))) (show (1 : Nat) ≠ 5 by decide)
      have n17 := hβn _ (List.mem_cons_of_mem _ List.mem_cons_self) _ (List.mem_cons_of_mem _ (List.mem_cons_of_mem _ (List.mem_cons_of_mem _ (List.mem_cons_of_mem _ List.mem_cons_self)))) (show (1 : Nat) ≠ 7 by decide)
      have n35 := hβn _ (List.mem_cons_of_mem _ (List.mem_cons_of_mem _ List.mem_cons_self)) _ (List.mem_cons_of_mem _ (List.mem_cons_of_mem _ (List.mem_cons_of_mem _ List.mem_cons_self))) (show (3 : Nat) ≠ 5 by decide)
      have n37 := hβn _ (List.mem_cons_of_mem _ (List.mem_cons_of_mem _ List.mem_cons_self)) _ (List.mem_cons_of_mem _ (List.mem_cons_of_mem _ (List.mem_cons_of_mem _ (List.mem_cons_of_mem _ List.mem_cons_self)))) (show (3 : Nat) ≠ 7 by decide)
      have n57 := hβn _ (List.mem_cons_of_mem _ (List.mem_cons_of_mem _ (List.mem_cons_of_mem _ List.mem_cons_self))) _ (List.mem_cons_of_mem _ (List.mem_cons_of_mem _ (List.mem_cons_of_mem _ (List.mem_cons_of_mem _ List.mem_cons_self)))) (show (5 : Nat) ≠ 7 by decide)
      simp only at g1 g3 g5 g7 g9 n91 n93 n95 n97 n13 n15 n17 n35 n37 n57
      clear hβ hβn
      simp only [List.foldl_cons, List.foldl_nil]
      simp only [Act.put, List.setIfInBounds_toArray, List.set_cons_zero, List.set_cons_succ]
      generalize β 1 = b1 at *
      generalize β 3 = b3 at *
      generalize β 5 = b5 at *
      generalize β 7 = b7 at *
      generalize β 9 = b9 at *
      refine wpAnyH_take (i := 8) (oi := { dst := some 28, op := Op.build 101 #[(0, Operand.tmp 21), (1, Operand.tmp 23), (2, Operand.tmp 25), (3, Operand.tmp 27)], type := 101, pos := "ref.go:84", after := #[{ on := 1, ground := Ground.data }, { on := 3, ground := Ground.data }, { on := 5, ground := Ground.data }, { on := 7, ground := Ground.data }], guard := none }) (v := ?v8) rfl (by kernel_rfl) (by kernel_rfl) (by kernel_rfl) (fun _ _ _ h => h) (Or.inl ⟨by rfl, ?h8⟩) trivial ?r8
      case h8 => ((intro wz hSw; go_simp); try (with_reducible rfl))
      simp only [Act.put, List.setIfInBounds_toArray, List.set_cons_zero, List.set_cons_succ]
      obtain ⟨z0, z1, z2, z3, y0, y1, y2, y3, zl⟩ := zero4 g9.1
      refine wpAnyH_ready (rs := [10]) (by kernel_rfl) (by simp) ?_
      refine AllReadyH.cons (o := { dst := none, op := Op.store 101 (Operand.tmp 12) (Operand.tmp 28), type := 0, pos := "ref.go:84", after := #[{ on := 9, ground := Ground.data }, { on := 8, ground := Ground.data }, { on := 0, ground := Ground.phase }, { on := 1, ground := Ground.phase }, { on := 2, ground := Ground.phase }, { on := 3, ground := Ground.phase }, { on := 4, ground := Ground.phase }, { on := 5, ground := Ground.phase }, { on := 6, ground := Ground.phase }, { on := 7, ground := Ground.phase }, { on := 8, ground := Ground.phase }, { on := 9, ground := Ground.phase }], guard := none }) rfl (fun K hK => ?_) AllReadyH.nil
      go_simp
      refine hK.out _ _ trivial (fun _ => ?_)
      clear hK K
      refine wpAnyH_done (by kernel_rfl) ?_ _
      have HR : Hid (type_of% (ri_ex5 (W0 := W0) g1.1 g3.1 g5.1 g7.1 g9.1 ⟨g9.2, g1.2, g3.2, g5.2, g7.2⟩ ⟨n91, n93, n95, n97, n13, n15, n17, n35, n37, n57⟩ ((Below.refl _ W0).drew.trans hbl))) := ri_ex5 (W0 := W0) g1.1 g3.1 g5.1 g7.1 g9.1 ⟨g9.2, g1.2, g3.2, g5.2, g7.2⟩ ⟨n91, n93, n95, n97, n13, n15, n17, n35, n37, n57⟩ ((Below.refl _ W0).drew.trans hbl)
      clear g1 g3 g5 g7 g9 hbl
      go_wp2_with fail
      go_meet
      exact HR.out
    case hB =>
      intro β w' hβ hβn hbl
      have g1 := hβ _ List.mem_cons_self
      have g3 := hβ _ (List.mem_cons_of_mem _ List.mem_cons_self)
      have g5 := hβ _ (List.mem_cons_of_mem _ (List.mem_cons_of_mem _ List.mem_cons_self))
      have g7 := hβ _ (List.mem_cons_of_mem _ (List.mem_cons_of_mem _ (List.mem_cons_of_mem _ List.mem_cons_self)))
      have n13 := hβn _ List.mem_cons_self _ (List.mem_cons_of_mem _ List.mem_cons_self) (show (1 : Nat) ≠ 3 by decide)
      have n15 := hβn _ List.mem_cons_self _ (List.mem_cons_of_mem _ (List.mem_cons_of_mem _ List.mem_cons_self)) (show (1 : Nat) ≠ 5 by decide)
      have n17 := hβn _ List.mem_cons_self _ (List.mem_cons_of_mem _ (List.mem_cons_of_mem _ (List.mem_cons_of_mem _ List.mem_cons_self))) (show (1 : Nat) ≠ 7 by decide)
      have n35 := hβn _ (List.mem_cons_of_mem _ List.mem_cons_self) _ (List.mem_cons_of_mem _ (List.mem_cons_of_mem _ List.mem_cons_self)) (show (3 : Nat) ≠ 5 by decide)
      have n37 := hβn _ (List.mem_cons_of_mem _ List.mem_cons_self) _ (List.mem_cons_of_mem _ (List.mem_cons_of_mem _ (List.mem_cons_of_mem _ List.mem_cons_self))) (show (3 : Nat) ≠ 7 by decide)
      have n57 := hβn _ (List.mem_cons_of_mem _ (List.mem_cons_of_mem _ List.mem_cons_self)) _ (List.mem_cons_of_mem _ (List.mem_cons_of_mem _ (List.mem_cons_of_mem _ List.mem_cons_self))) (show (5 : Nat) ≠ 7 by decide)
      simp only at g1 g3 g5 g7 n13 n15 n17 n35 n37 n57
      clear hβ hβn
      simp only [List.foldl_cons, List.foldl_nil]
      simp only [Act.put, List.setIfInBounds_toArray, List.set_cons_zero, List.set_cons_succ]
      generalize β 1 = b1 at *
      generalize β 3 = b3 at *
      generalize β 5 = b5 at *
      generalize β 7 = b7 at *
      refine wpAnyH_take (i := 8) (oi := { dst := some 28, op := Op.build 101 #[(0, Operand.tmp 21), (1, Operand.tmp 23), (2, Operand.tmp 25), (3, Operand.tmp 27)], type := 101, pos := "ref.go:84", after := #[{ on := 1, ground := Ground.data }, { on := 3, ground := Ground.data }, { on := 5, ground := Ground.data }, { on := 7, ground := Ground.data }], guard := none }) (v := ?v8b) rfl (by kernel_rfl) (by kernel_rfl) (by kernel_rfl) (fun _ _ _ h => h) (Or.inl ⟨by rfl, ?h8b⟩) trivial ?r8b
      case h8b => ((intro wz hSw; go_simp); try (with_reducible rfl))
      simp only [Act.put, List.setIfInBounds_toArray, List.set_cons_zero, List.set_cons_succ]
      refine wpAnyH_ready (rs := [9]) (by kernel_rfl) (by simp) ?_
      refine AllReadyH.cons (o := { dst := some 12, op := Op.alloc 101, type := 0, pos := "ref.go:84", after := #[], guard := none }) rfl (fun K hK => ?_) AllReadyH.nil
      go_simp
      refine hK.out _ _ trivial (fun _ => ?_)
      clear hK K
      have hal : Below w'.heap.size w' (w'.alloc (.cells #[.slice none 0 0, .slice none 0 0, .slice none 0 0, .slice none 0 0] 101)) := (Below.refl _ w').alloc (Nat.le_refl _) _
      have l1 := lt_of_get g1.1
      have l3 := lt_of_get g3.1
      have l5 := lt_of_get g5.1
      have l7 := lt_of_get g7.1
      have g9 := heap_new w' (.cells #[.slice none 0 0, .slice none 0 0, .slice none 0 0, .slice none 0 0] 101)
      have HR : Hid (type_of% (ri_ex5 (W0 := W0) ((hal.block _ l1).trans g1.1) ((hal.block _ l3).trans g3.1) ((hal.block _ l5).trans g5.1) ((hal.block _ l7).trans g7.1) g9 ⟨hbl.size, g1.2, g3.2, g5.2, g7.2⟩ ⟨by omega, by omega, by omega, by omega, n13, n15, n17, n35, n37, n57⟩ (btr ((Below.refl _ W0).drew.trans hbl) hal))) := ri_ex5 (W0 := W0) ((hal.block _ l1).trans g1.1) ((hal.block _ l3).trans g3.1) ((hal.block _ l5).trans g5.1) ((hal.block _ l7).trans g7.1) g9 ⟨hbl.size, g1.2, g3.2, g5.2, g7.2⟩ ⟨by omega, by omega, by omega, by omega, n13, n15, n17, n35, n37, n57⟩ (btr ((Below.refl _ W0).drew.trans hbl) hal)
      clear g1 g3 g5 g7 hbl hal l1 l3 l5 l7 n13 n15 n17 n35 n37 n57
      generalize w'.alloc (.cells #[.slice none 0 0, .slice none 0 0, .slice none 0 0, .slice none 0 0] 101) = W9 at *
      generalize w'.heap.size = b9 at *
      obtain ⟨z0, z1, z2, z3, y0, y1, y2, y3, zl⟩ := zero4 g9
      refine wpAnyH_ready (rs := [10]) (by kernel_rfl) (by simp) ?_
      refine AllReadyH.cons (o := { dst := none, op := Op.store 101 (Operand.tmp 12) (Operand.tmp 28), type := 0, pos := "ref.go:84", after := #[{ on := 9, ground := Ground.data }, { on := 8, ground := Ground.data }, { on := 0, ground := Ground.phase }, { on := 1, ground := Ground.phase }, { on := 2, ground := Ground.phase }, { on := 3, ground := Ground.phase }, { on := 4, ground := Ground.phase }, { on := 5, ground := Ground.phase }, { on := 6, ground := Ground.phase }, { on := 7, ground := Ground.phase }, { on := 8, ground := Ground.phase }, { on := 9, ground := Ground.phase }], guard := none }) rfl (fun K hK => ?_) AllReadyH.nil
      go_simp
      refine hK.out _ _ trivial (fun _ => ?_)
      clear hK K
      refine wpAnyH_done (by kernel_rfl) ?_ _
      go_wp2_with fail
      go_meet
      exact HR.out
  case rest =>
    obtain ⟨bx, db, kb, hb, sb, rfl, hRI, hbw⟩ := hcut
    have H1 : Hid (RI W0.heap.size n (wc.setCell ⟨hb, s, none⟩ (.bool true)) bx db kb hb sb (List.replicate n 0) (List.replicate n 0) ((List.replicate n false).set s true) (List.replicate n false) ∧ Below W0.heap.size W0 (wc.setCell ⟨hb, s, none⟩ (.bool true))) := ⟨hRI.setH s true, hbw.setCell (p := ⟨hb, s, none⟩) hRI.low.2.2.2.1 _⟩
    obtain ⟨c0, c1, c2, c3⟩ := box4 hRI.box
    have cs := lt_of_get hRI.box
    obtain ⟨q0, ql, qf⟩ := hRI.h.at (k := s) (x := false) (by simp [hs])
    have i1 : (s : Int) < (n : Int) := by omega
    have i2 : (0 : Int) ≤ (s : Int) := by omega
    clear hmk1 hmk2 hmk3 hRI hbw
    go_wp2_with fail
    clear c0 c1 c2 c3 cs q0 ql qf i1 i2
    generalize wc.setCell ⟨hb, s, none⟩ (.bool true) = w2 at *
    go_loopw [13] (fun iv wr => ∃ t : Nat, (iv = .int .i64 t ∧ (t = 0 ∨ (t : Int) ≤ se)) ∧ ∃ D K Ha Se S, RI W0.heap.size n wr bx db kb hb sb D K Ha Se ∧ Below W0.heap.size W0 wr ∧ Steps n zs hops mo (S0.begin n s) t S ∧ RR n S D K Ha Se) (fun iv _ => n + 1 - (intOf iv).toNat)
    case atStart => exact ⟨0, ⟨rfl, Or.inl rfl⟩, _, _, _, _, _, H1.out.1, H1.out.2, rfl, HBG.out⟩
    case round =>
      obtain ⟨t, ⟨rfl, htb⟩, D, K, Ha, Se, S, hRI, hbw, hSt, hRR⟩ := hrel
      have HTB : Hid (t = 0 ∨ (t : Int) ≤ se) := htb
      have G1 : Hid (RI W0.heap.size n wr bx db kb hb sb D K Ha Se ∧ Below W0.heap.size W0 wr ∧ Steps n zs hops mo (S0.begin n s) t S ∧ RR n S D K Ha Se) := ⟨hRI, hbw, hSt, hRR⟩
      have HI : Hid (SInv n zs hops s t S) := steps_inv HZ.out HI0.out t S hSt
      have htn : t ≤ n := steps_le HZ.out HI0.out hSt
      have HTK : Hid (type_of% (take_calls n db kb hb sb n n n n D Ha Se wr hRI.d hRI.h hRI.s hRR.lD hRR.lH hRR.lS hn)) := take_calls n db kb hb sb n n n n D Ha Se wr hRI.d hRI.h hRI.s hRR.lD hRR.lH hRR.lS hn
      obtain ⟨c0, c1, c2, c3⟩ := box4 hRI.box
      have cs := lt_of_get hRI.box
      clear htb hRI hbw hSt hRR
      by_cases hse : (t : Int) < se
      · go_wp2_with fail
        refine HTK.out.mono ?_
        rintro e w4 ⟨⟨r, rfl, hT⟩, hb4⟩
        have G4 : Hid (RI W0.heap.size n w4 bx db kb hb sb D K Ha Se ∧ Below W0.heap.size W0 w4) := ⟨G1.out.1.keep hb4, btr G1.out.2.1 hb4⟩
        clear hb4 c0 c1 c2 c3 cs HTK
        obtain ⟨c0, c1, c2, c3⟩ := box4 G4.out.1.box
        have cs := lt_of_get G4.out.1.box
        rcases hT with ⟨rfl, hNU⟩ | ⟨v, k, rfl, hLU⟩
        · have HE : Hid (RunEnd n se mo t S) := Or.inr (Or.inl ⟨G1.out.2.2.2.noneOf HI.out.opn hNU, HTB.out⟩)
          clear hNU
          obtain ⟨z0, z1, z2, z3, y0, y1, y2, y3, zl⟩ := zero4 ((G4.out.2.block _ (lt_of_get HRB.out)).trans HRB.out)
          go_wp2
          refine bodyPost_ret (v := .agg #[.slice (some ⟨db, 0, none⟩) n n, .slice (some ⟨kb, 0, none⟩) n n, .slice (some ⟨hb, 0, none⟩) n n, .slice (some ⟨sb, 0, none⟩) n n]) (by simp [results, Tryd.results36, go_sem, z0, z1, z2, z3]) rfl ?_
          obtain ⟨hf1, hf2⟩ := G4.out.1.fin (Nat.le_of_eq HS0.out) HB0.out G4.out.2 (c0 := .slice (some ⟨db, 0, none⟩) n n) (c1 := .slice (some ⟨kb, 0, none⟩) n n) (c2 := .slice (some ⟨hb, 0, none⟩) n n) (c3 := .slice (some ⟨sb, 0, none⟩) n n)
          exact ⟨db, kb, hb, sb, D, K, Ha, Se, t, S, rfl, ⟨G1.out.2.2.1, HE.out, G1.out.2.2.2⟩, hf1, hf2⟩
        · have HLU : Hid (LU D Ha Se n v k) := hLU
          have HL : Hid (Hp.Least n S.f v k) := G1.out.2.2.2.leastOf HI.out.opn hLU
          have hvn : v < n := hLU.1
          obtain ⟨q0, ql, _⟩ := G4.out.1.d.at hLU.2.1.1
          have i1 : (v : Int) < (n : Int) := by omega
          have i2 : (0 : Int) ≤ (v : Int) := by omega
          have i3 : ¬ (v : Int) < 0 := by omega
          have hlab := HI.out.lab v k (HI.out.opn v k HL.out.1 HL.out.2.1)
          have hk1 : 0 ≤ k := hlab.1
          have hk2 : k ≤ 140737488355328 := by have h1 := hlab.2.1; have h2 := hlab.2.2.2.1; omega
          obtain ⟨h, hh⟩ : ∃ h, S.hs v = h := ⟨_, rfl⟩
          have hh1 : 0 ≤ h := by rw [← hh]; exact hlab.2.2.1
          have hh2 : h ≤ 1000000 := by rw [← hh]; have h2 := hlab.2.2.2.1; omega
          have HH : Hid (S.hs v = h) := hh
          have hvs := HI.out.opn v k HL.out.1 HL.out.2.1
          have hrr := G1.out.2.2.2.some' v k hvs
          have HKV : Hid (K[v]? = some h ∧ Se[v]? = some false) := ⟨by rw [← hh]; exact hrr.2.1, hLU.2.1.2.2⟩
          clear hLU hlab hh hvs hrr
          by_cases hmo : mo < k
          · have HE : Hid (RunEnd n se mo t S) := Or.inr (Or.inr ⟨v, k, HL.out, hmo, HTB.out⟩)
            obtain ⟨z0, z1, z2, z3, y0, y1, y2, y3, zl⟩ := zero4 ((G4.out.2.block _ (lt_of_get HRB.out)).trans HRB.out)
            go_wp2
            refine bodyPost_ret (v := .agg #[.slice (some ⟨db, 0, none⟩) n n, .slice (some ⟨kb, 0, none⟩) n n, .slice (some ⟨hb, 0, none⟩) n n, .slice (some ⟨sb, 0, none⟩) n n]) (by simp [results, Tryd.results36, go_sem, z0, z1, z2, z3]) rfl ?_
            obtain ⟨hf1, hf2⟩ := G4.out.1.fin (Nat.le_of_eq HS0.out) HB0.out G4.out.2 (c0 := .slice (some ⟨db, 0, none⟩) n n) (c1 := .slice (some ⟨kb, 0, none⟩) n n) (c2 := .slice (some ⟨hb, 0, none⟩) n n) (c3 := .slice (some ⟨sb, 0, none⟩) n n)
            exact ⟨db, kb, hb, sb, D, K, Ha, Se, t, S, rfl, ⟨G1.out.2.2.1, HE.out, G1.out.2.2.2⟩, hf1, hf2⟩
          · have hmo' : ¬ k > mo := by omega
            obtain ⟨q3, ql3, qf3⟩ := G4.out.1.s.at HKV.out.2
            have G5 : Hid (RI W0.heap.size n (w4.setCell ⟨sb, v, none⟩ (.bool true)) bx db kb hb sb D K Ha (Se.set v true) ∧ Below W0.heap.size W0 (w4.setCell ⟨sb, v, none⟩ (.bool true)) ∧ RR n (S.pop v) D K Ha (Se.set v true) ∧ LI n v k h (S.pop v)) := ⟨G4.out.1.setS v true, G4.out.2.setCell (p := ⟨sb, v, none⟩) G4.out.1.low.2.2.2.2 _, G1.out.2.2.2.pop (HI.out.opn v k HL.out.1 HL.out.2.1), by rw [← HH.out]; exact LI.start HI.out HL.out⟩
            go_upto_region 10 with fail
            generalize w4.setCell ⟨sb, v, none⟩ (.bool true) = w5 at *
            clear q0 ql q3 ql3 qf3 c0 c1 c2 c3 cs
            obtain ⟨c0, c1, c2, c3⟩ := box4 G5.out.1.box
            have cs := lt_of_get G5.out.1.box
            obtain ⟨q0, ql, _⟩ := G5.out.1.k.at HKV.out.1
            by_cases hho : hops ≤ h
            · have hho' : h ≥ hops := hho
              have HST : Hid (S.step zs hops v k = S.pop v) := by
                show _ = _
                unfold FS.step
                rw [if_neg (by rw [HH.out]; omega)]
              go_wp2
              go_roundw
              case rel => exact ⟨t + 1, ⟨by go_num, Or.inr (by omega)⟩, D, K, Ha, Se.set v true, S.step zs hops v k, G5.out.1, G5.out.2.1, ⟨S, v, k, G1.out.2.2.1, HL.out, by omega, rfl⟩, by rw [HST.out]; exact G5.out.2.2.1⟩
              case measure => simp [intOf]; omega
            · have hho' : ¬ h ≥ hops := hho
              have HST : Hid (S.step zs hops v k = (arcsOf zs v).foldl (relax1 v k h) (S.pop v)) := by
                show _ = _
                unfold FS.step
                rw [if_pos (by rw [HH.out]; omega), HH.out]
                rfl
              have HRX : Hid (∀ wx, Below W0.heap.size W0 wx → RowsIn wx rb n zs) := fun wx hx => HRW.out.keep (btr HB0.out hx)
              obtain ⟨o, c, hrow, _⟩ := (HRX.out w5 G5.out.2.1).row v hvn
              have hrl := (HRX.out w5 G5.out.2.1).lt
              have HHF : Hid (∀ wx, Below w5.heap.size w5 wx ∨ Below W0.heap.size W0 wx → HalfIn wx o (arcsOf zs v)) := fun wx hx => by
                have hx' : Below W0.heap.size W0 wx := by
                  rcases hx with hx | hx
                  · exact btr G5.out.2.1 hx
                  · exact hx
                obtain ⟨o', c', h1, h2⟩ := (HRX.out wx hx').row v hvn
                obtain ⟨o2, c2, h3, h4⟩ := HRW.out.row v hvn
                have e1 := ((btr HB0.out hx').cell (p := ⟨rb, v, none⟩) HRW.out.lt).trans h3
                have e2 := ((btr HB0.out G5.out.2.1).cell (p := ⟨rb, v, none⟩) HRW.out.lt).trans h3
                rw [e1] at h1
                rw [e2] at hrow
                injection h1 with h1
                injection hrow with hrow
                injection h1 with h1
                injection hrow with hrow
                subst h1
                subst hrow
                exact h2
              obtain ⟨m, hm⟩ : ∃ m, (arcsOf zs v).length = m := ⟨_, rfl⟩
              have HM : Hid ((arcsOf zs v).length = m) := hm
              have hmb : m ≤ 1048576 := by
                have h2 := HZ.out.short
                have h3 := arcsOf_len zs v
                omega
              rw [hm] at hrow
              clear hm
              go_wp2_with fail
              clear c0 c1 c2 c3 cs q0 ql hrow hrl
              go_loopw [67] (fun jv wr => ∃ j : Nat, j ≤ m ∧ jv = .int .i64 j ∧ ∃ D' K' Ha', RI W0.heap.size n wr bx db kb hb sb D' K' Ha' (Se.set v true) ∧ Below W0.heap.size W0 wr ∧ RR n (((arcsOf zs v).take j).foldl (relax1 v k h) (S.pop v)) D' K' Ha' (Se.set v true) ∧ LI n v k h (((arcsOf zs v).take j).foldl (relax1 v k h) (S.pop v))) (fun jv _ => m - (intOf jv).toNat)
              case atStart => exact ⟨0, Nat.zero_le _, rfl, D, K, Ha, G5.out.1, G5.out.2.1, G5.out.2.2.1, G5.out.2.2.2⟩
              case round =>
                obtain ⟨j, hj, rfl, D', K', Ha', hRI, hbw, hRR, hLI⟩ := hrel
                obtain ⟨Sj, hSj⟩ : ∃ Sj, ((arcsOf zs v).take j).foldl (relax1 v k h) (S.pop v) = Sj := ⟨_, rfl⟩
                rw [hSj] at hRR hLI
                have HSJ : Hid (((arcsOf zs v).take j).foldl (relax1 v k h) (S.pop v) = Sj) := hSj
                have G6 : Hid (RI W0.heap.size n wr bx db kb hb sb D' K' Ha' (Se.set v true) ∧ Below W0.heap.size W0 wr ∧ RR n Sj D' K' Ha' (Se.set v true) ∧ LI n v k h Sj) := ⟨hRI, hbw, hRR, hLI⟩
                by_cases hlt : j < m
                · obtain ⟨a, ha⟩ : ∃ a, (arcsOf zs v)[j]? = some a := ⟨(arcsOf zs v)[j]'(by rw [HM.out]; exact hlt), List.getElem?_eq_getElem _⟩
                  obtain ⟨b, off, rfl, tl, t0, t1⟩ := HHF.out wr (Or.inr hbw) j a ha
                  have hmem := (HZ.out.arcRow_mem v a).1 (List.mem_of_getElem? ha)
                  have hends := HZ.out.ends a hmem.1
                  have hav := hmem.2
                  obtain ⟨x, hx⟩ : ∃ x : Nat, a.2.1 = (x : Int) := ⟨a.2.1.toNat, by omega⟩
                  obtain ⟨r, hr⟩ : ∃ r, a.2.2 = r := ⟨_, rfl⟩
                  have hxn : x < n := by omega
                  have hxv : x ≠ v := by omega
                  have r0 : 0 ≤ r := by omega
                  have r1 : r ≤ 2147483647 := by omega
                  rw [hx] at t0
                  rw [hr] at t1
                  have HNX : Hid (((arcsOf zs v).take (j + 1)).foldl (relax1 v k h) (S.pop v) = relax1 v k h Sj a) := by
                    show _ = _
                    rw [List.take_add_one, ha, List.foldl_append, HSJ.out]
                    rfl
                  have HAX : Hid (a.2.1 = (x : Int) ∧ a.2.2 = r ∧ x < n) := ⟨hx, hr, hxn⟩
                  have HLN : Hid (LI n v k h (relax1 v k h Sj a)) := hLI.next (by rw [hx]; simpa using hxv)
                  obtain ⟨dx, hdx⟩ : ∃ dx, D'[x]? = some dx := ⟨D'[x]'(by rw [hRR.lD]; exact hxn), List.getElem?_eq_getElem _⟩
                  obtain ⟨ax, hax⟩ : ∃ ax, Ha'[x]? = some ax := ⟨Ha'[x]'(by rw [hRR.lH]; exact hxn), List.getElem?_eq_getElem _⟩
                  obtain ⟨sx, hsx⟩ : ∃ sx, (Se.set v true)[x]? = some sx := ⟨(Se.set v true)[x]'(by rw [hRR.lS]; exact hxn), List.getElem?_eq_getElem _⟩
                  obtain ⟨kx, hkx⟩ : ∃ kx, K'[x]? = some kx := ⟨K'[x]'(by rw [hRR.lK]; exact hxn), List.getElem?_eq_getElem _⟩
                  have HBT : Hid (Sj.better x (k + r) = (!sx && (!ax || decide (k + r < dx)))) := hLI.better hRR hdx hax hsx r0
                  have HV : Hid (D'[v]? = some k ∧ K'[v]? = some h) := ⟨(hRR.some' v k hLI.me.1).1, by rw [(hRR.some' v k hLI.me.1).2.1, hLI.me.2.2]⟩
                  have HX : Hid (D'[x]? = some dx ∧ Ha'[x]? = some ax ∧ (Se.set v true)[x]? = some sx ∧ K'[x]? = some kx) := ⟨hdx, hax, hsx, hkx⟩
                  have hal : Below wr.heap.size wr (wr.alloc (.cells #[.int .i64 x, .int .u64 r] 98)) := (Below.refl _ wr).alloc (Nat.le_refl _) _
                  have G7 : Hid (RI W0.heap.size n (wr.alloc (.cells #[.int .i64 x, .int .u64 r] 98)) bx db kb hb sb D' K' Ha' (Se.set v true) ∧ Below W0.heap.size W0 (wr.alloc (.cells #[.int .i64 x, .int .u64 r] 98)) ∧ (wr.alloc (.cells #[.int .i64 x, .int .u64 r] 98)).heap[wr.heap.size]? = some (.cells #[.int .i64 x, .int .u64 r] 98)) := ⟨hRI.keep hal, btr hbw hal, heap_new _ _⟩
                  have HNE : Hid (bx ≠ wr.heap.size ∧ db ≠ wr.heap.size ∧ kb ≠ wr.heap.size ∧ hb ≠ wr.heap.size ∧ sb ≠ wr.heap.size) := by
                    have l1 := lt_of_get hRI.box
                    have l2 := lt_of_get hRI.d
                    have l3 := lt_of_get hRI.k
                    have l4 := lt_of_get hRI.h
                    have l5 := lt_of_get hRI.s
                    exact ⟨by omega, by omega, by omega, by omega, by omega⟩
                  have s1 : (x : Int) < (n : Int) := by omega
                  have s2 : (0 : Int) ≤ (x : Int) := by omega
                  have s3 : (j : Int) < (m : Int) := by omega
                  have s4 : (0 : Int) ≤ (j : Int) := by omega
                  have s5 : IntKind.u64.wrap (k + r) = k + r := by rw [IntKind.wrap_u64] <;> omega
                  have s6 : IntKind.i64.wrap (h + 1) = h + 1 := by rw [IntKind.wrap_i64] <;> omega
                  clear hRI hbw hRR hLI hmem hends hav hx hr hdx hax hsx hkx hal hSj ha
                  go_upto_region 14 with fail
                  generalize wr.alloc (.cells #[.int .i64 x, .int .u64 r] 98) = w6 at *
                  generalize wr.heap.size = hf at *
                  clear t0 t1 tl
                  obtain ⟨c0, c1, c2, c3⟩ := box4 G7.out.1.box
                  have cs := lt_of_get G7.out.1.box
                  obtain ⟨h0, h1, _, _⟩ := cell_two G7.out.2.2
                  have hl := lt_of_get G7.out.2.2
                  obtain ⟨q0, ql, _⟩ := G7.out.1.d.at HV.out.1
                  go_quiet (fail)
                  have G8 : Hid (RI W0.heap.size n (w6.drewN nq) bx db kb hb sb D' K' Ha' (Se.set v true) ∧ Below W0.heap.size W0 (w6.drewN nq) ∧ (w6.drewN nq).heap[hf]? = some (.cells #[.int .i64 x, .int .u64 r] 98)) := ⟨G7.out.1.keep (below_drewN (Below.refl _ _) nq), below_drewN G7.out.2.1 nq, G7.out.2.2⟩
                  clear c0 c1 c2 c3 cs h0 h1 hl q0 ql
                  generalize w6.drewN nq = w7 at *
                  obtain ⟨c0, c1, c2, c3⟩ := box4 G8.out.1.box
                  have cs := lt_of_get G8.out.1.box
                  obtain ⟨h0, h1, _, _⟩ := cell_two G8.out.2.2
                  have hl := lt_of_get G8.out.2.2
                  obtain ⟨e0, el0, _⟩ := G8.out.1.s.at HX.out.2.2.1
                  obtain ⟨e1, el1, ef1⟩ := G8.out.1.h.at HX.out.2.1
                  obtain ⟨e2, el2, _⟩ := G8.out.1.d.at HX.out.1
                  have HC : (Sj.better x (k + r) = false ∧ (sx = true ∨ (sx = false ∧ ax = true ∧ ¬ k + r < dx))) ∨ (Sj.better x (k + r) = true ∧ sx = false ∧ (ax = false ∨ (ax = true ∧ k + r < dx))) := by
                    have hB := HBT.out
                    cases sx with
                    | true => exact Or.inl ⟨by rw [hB]; rfl, Or.inl rfl⟩
                    | false =>
                      cases ax with
                      | false => exact Or.inr ⟨by rw [hB]; rfl, rfl, Or.inl rfl⟩
                      | true =>
                        by_cases hd : k + r < dx
                        · exact Or.inr ⟨by rw [hB]; simp [hd], rfl, Or.inr ⟨rfl, hd⟩⟩
                        · exact Or.inl ⟨by rw [hB]; simp [hd], Or.inr ⟨rfl, rfl, hd⟩⟩
                  rcases HC with ⟨hB, hC⟩ | ⟨hB, rfl, hC⟩
                  · have HRN : Hid (RR n (relax1 v k h Sj a) D' K' Ha' (Se.set v true)) := G6.out.2.2.1.skip HAX.out.1 HAX.out.2.1 hB
                    clear hB
                    rcases hC with rfl | ⟨rfl, rfl, hd⟩
                    all_goals
                      go_wp2
                      go_roundw
                      case rel => exact ⟨j + 1, by omega, by go_num, D', K', Ha', G8.out.1, G8.out.2.1, by rw [HNX.out]; exact HRN.out, by rw [HNX.out]; exact HLN.out⟩
                      case measure => simp [intOf]; omega
                  · have HRN : Hid (RR n (relax1 v k h Sj a) (D'.set x (k + r)) (K'.set x (h + 1)) (Ha'.set x true) (Se.set v true)) := G6.out.2.2.1.put HAX.out.1 HAX.out.2.1 HAX.out.2.2 HX.out.2.2.1 hB
                    have G9 : Hid (RI W0.heap.size n (w7.setCell ⟨hb, x, none⟩ (.bool true)) bx db kb hb sb D' K' (Ha'.set x true) (Se.set v true) ∧ Below W0.heap.size W0 (w7.setCell ⟨hb, x, none⟩ (.bool true)) ∧ (w7.setCell ⟨hb, x, none⟩ (.bool true)).heap[hf]? = some (.cells #[.int .i64 x, .int .u64 r] 98)) := ⟨G8.out.1.setH x true, G8.out.2.1.setCell (p := ⟨hb, x, none⟩) G8.out.1.low.2.2.2.1 _, (heap_setCell_other _ _ _ _ (Ne.symm HNE.out.2.2.2.1)).trans G8.out.2.2⟩
                    clear hB
                    rcases hC with rfl | ⟨rfl, hd⟩
                    all_goals
                      go_upto_region 17 with fail
                      generalize w7.setCell ⟨hb, x, none⟩ (.bool true) = w8 at *
                      clear c0 c1 c2 c3 cs h0 h1 hl e0 el0 e1 el1 ef1 e2 el2
                      obtain ⟨c0, c1, c2, c3⟩ := box4 G9.out.1.box
                      have cs := lt_of_get G9.out.1.box
                      obtain ⟨h0, h1, _, _⟩ := cell_two G9.out.2.2
                      have hl := lt_of_get G9.out.2.2
                      obtain ⟨e2, el2, ef2⟩ := G9.out.1.d.at HX.out.1
                      have G10 : Hid (RI W0.heap.size n (w8.setCell ⟨db, x, none⟩ (.int .u64 (k + r))) bx db kb hb sb (D'.set x (k + r)) K' (Ha'.set x true) (Se.set v true) ∧ Below W0.heap.size W0 (w8.setCell ⟨db, x, none⟩ (.int .u64 (k + r))) ∧ (w8.setCell ⟨db, x, none⟩ (.int .u64 (k + r))).heap[hf]? = some (.cells #[.int .i64 x, .int .u64 r] 98)) := ⟨G9.out.1.setD x (k + r), G9.out.2.1.setCell (p := ⟨db, x, none⟩) G9.out.1.low.2.1 _, (heap_setCell_other _ _ _ _ (Ne.symm HNE.out.2.1)).trans G9.out.2.2⟩
                      go_upto_region 18 with fail
                      generalize w8.setCell ⟨db, x, none⟩ (.int .u64 (k + r)) = w9 at *
                      clear c0 c1 c2 c3 cs h0 h1 hl e2 el2 ef2
                      obtain ⟨c0, c1, c2, c3⟩ := box4 G10.out.1.box
                      have cs := lt_of_get G10.out.1.box
                      obtain ⟨h0, h1, _, _⟩ := cell_two G10.out.2.2
                      have hl := lt_of_get G10.out.2.2
                      obtain ⟨e3, el3, ef3⟩ := G10.out.1.k.at HX.out.2.2.2
                      obtain ⟨e4, _, _⟩ := G10.out.1.k.at HV.out.2
                      go_region
                      go_wp2
                      go_roundw
                      case rel => exact ⟨j + 1, by omega, by go_num, D'.set x (k + r), K'.set x (h + 1), Ha'.set x true, (G10.out.1.setK x (h + 1)).keep (Below.refl _ _).drew, (G10.out.2.1.setCell (p := ⟨kb, x, none⟩) G10.out.1.low.2.2.1 _).drew, by rw [HNX.out]; exact HRN.out, by rw [HNX.out]; exact HLN.out⟩
                      case measure => simp [intOf]; omega
                · obtain rfl : j = m := by omega
                  have HAL : Hid (S.step zs hops v k = Sj) := by
                    show _ = _
                    rw [HST.out, ← HSJ.out, ← HM.out, List.take_length]
                  clear hRI hbw hRR hLI hSj
                  go_wp2
                  go_roundw
                  case rel => exact ⟨t + 1, ⟨by go_num, Or.inr (by omega)⟩, D', K', Ha', Se.set v true, S.step zs hops v k, G6.out.1, G6.out.2.1, ⟨S, v, k, G1.out.2.2.1, HL.out, by omega, rfl⟩, by rw [HAL.out]; exact G6.out.2.2.1⟩
                  case measure => simp [intOf]; omega
      · have HE : Hid (RunEnd n se mo t S) := Or.inl ⟨hse, HTB.out⟩
        obtain ⟨z0, z1, z2, z3, y0, y1, y2, y3, zl⟩ := zero4 ((G1.out.2.1.block _ (lt_of_get HRB.out)).trans HRB.out)
        go_wp2
        refine bodyPost_ret (v := .agg #[.slice (some ⟨db, 0, none⟩) n n, .slice (some ⟨kb, 0, none⟩) n n, .slice (some ⟨hb, 0, none⟩) n n, .slice (some ⟨sb, 0, none⟩) n n]) (by simp [results, Tryd.results36, go_sem, z0, z1, z2, z3]) rfl ?_
        obtain ⟨hf1, hf2⟩ := G1.out.1.fin (Nat.le_of_eq HS0.out) HB0.out G1.out.2.1 (c0 := .slice (some ⟨db, 0, none⟩) n n) (c1 := .slice (some ⟨kb, 0, none⟩) n n) (c2 := .slice (some ⟨hb, 0, none⟩) n n) (c3 := .slice (some ⟨sb, 0, none⟩) n n)
        exact ⟨db, kb, hb, sb, D, K, Ha, Se, t, S, rfl, ⟨G1.out.2.2.1, HE.out, G1.out.2.2.2⟩, hf1, hf2⟩
end Go.Proofs.YtnkfggccahohpaaDoor
