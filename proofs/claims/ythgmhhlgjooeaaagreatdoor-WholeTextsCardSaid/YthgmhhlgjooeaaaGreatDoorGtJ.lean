/- gtext's graph, walked. (gengj.py) -/
import Derived.Test.YthgmhhlgjooeaaaGreatDoorGtI
import Derived.Deep.AppendLies
namespace Go.Proofs.YthgmhhlgjooeaaaGreatDoor.Gt
open Go Go.Lib Go.RowKit Go.Extern Hi

attribute [local go_sem] Oper.semAt_some

/-- what a row's answer says of the rows. -/
theorem row_spec {w w' : World} {k line k' line' : Nat} {Q : List Rw} {word : By} {B : List (Nat × Int)} {E : Int} {nv : Value} (hl : line = lnK (Q.map rowOf) k)
    (h : (Q.length ≤ k ∧ E = 5 ∧ k' = k ∧ line' = line) ∨ ∃ q, Q[k]? = some q ∧ E = rowE (q.2.2.map bs) word B ∧ k' = k + 1 ∧ line' = q.1 ∧ (E = 0 → ∃ g, nv = .slice (some ⟨g, 0, none⟩) B.length B.length ∧ NmAt w' g B.length B.length ((q.2.2.map bs).drop 1 |>.map val) ∧ w.heap.size ≤ g)) :
    E = rE (Q.map rowOf) k word B ∧ line' = lnE (Q.map rowOf) k ∧ (E = 0 → k < Q.length ∧ k' = k + 1 ∧ line' = lnK (Q.map rowOf) (k + 1) ∧ ∃ g, nv = .slice (some ⟨g, 0, none⟩) B.length B.length ∧ w.heap.size ≤ g ∧ ∃ cur : Array Value, w'.heap[g]? = some (.cells cur 3) ∧ ∀ j, j < B.length → cur[j]? = some (.int .i64 (val (wdK (Q.map rowOf) k (j + 1)) : Int))) := by
  rcases h with ⟨h1, h2, h3, h4⟩ | ⟨q, h1, h2, h3, h4, h5⟩
  · have e : (Q.map rowOf)[k]? = none := by rw [List.getElem?_map, List.getElem?_eq_none h1]; rfl
    refine ⟨by unfold rE; rw [e]; exact h2, ?_, fun e0 => by rw [h2] at e0; cases e0⟩
    unfold lnE
    rw [if_neg (by rw [List.length_map]; omega), h4, hl]
  · have e : (Q.map rowOf)[k]? = some (rowOf q) := by rw [List.getElem?_map, h1]; rfl
    have hk := (List.getElem?_eq_some_iff.1 h1).1
    have e2 : lnK (Q.map rowOf) (k + 1) = q.1 := by
      show ((Q.map rowOf).getD k (0, [])).1 = q.1
      rw [List.getD_eq_getElem?_getD, e]
      rfl
    refine ⟨by unfold rE; rw [e]; exact h2, ?_, fun e0 => ⟨hk, h3, by rw [h4, e2], ?_⟩⟩
    · unfold lnE
      rw [if_pos (by rw [List.length_map]; exact hk), e2, h4]
    · obtain ⟨g, g1, ⟨cur, c1, c2, c3⟩, g3⟩ := h5 e0
      refine ⟨g, g1, g3, cur, c1, fun j hj => ?_⟩
      have hwl : (q.2.2.map bs).length = 1 + B.length := (row_num (h2 ▸ e0)).1
      have e3 : ((q.2.2.map bs).drop 1 |>.map val)[j]? = some (val (wdK (Q.map rowOf) k (j + 1))) := by
        rw [List.getElem?_map, List.getElem?_drop]
        have e4 : wdK (Q.map rowOf) k (j + 1) = (q.2.2.map bs).getD (j + 1) [] := by
          unfold wdK
          rw [List.getD_eq_getElem?_getD (l := Q.map rowOf), e]
          rfl
        rw [e4, List.getD_eq_getElem?_getD, Nat.add_comm 1 j, List.getElem?_eq_getElem (by omega)]
        rfl
      exact c3 j _ (by omega) e3
theorem graph_res {W : World} {z : Nat} {x0 x1 u : Value} {tmps : Array Value} (h1 : W.heap[z]? = some (.cells #[x0, x1] 24)) (t2 : tmps[2]?.getD undef = .pointer (some ⟨z, 0, none⟩)) (t3 : tmps[3]?.getD undef = u) :
    (results Tryz.f25 tmps).run Tryz.prog W = .ok (.tuple #[.agg #[x0, x1], u]) W := by
  have c0 : W.cell? ⟨z, 0, none⟩ = some x0 := by simp [World.cell?, h1]
  have c1 : W.cell? ⟨z, 1, none⟩ = some x1 := by simp [World.cell?, h1]
  simp [results, Tryz.results25, go_sem, t2, t3, c0, c1]
/-- what graph answers. -/
def GphA (w : World) (rb : Nat) (Q : List Rw) (e : Ending) (w' : World) : Prop :=
  ∃ (ao : Option Addr) (ac k line : Nat), e = .returned (.tuple #[.agg #[.int .i64 ((gR (Q.map rowOf)).2.1 : Int), .slice ao (gR (Q.map rowOf)).2.2.length ac], errV (gR (Q.map rowOf)).1.1]) ∧ Off rb w w' ∧ Rd w' rb Q k line ∧ ((gR (Q.map rowOf)).1.1 ≠ 0 → line = (gR (Q.map rowOf)).1.2) ∧ w'.ownsRow w.heap.size 50 3 (.slice ao (gR (Q.map rowOf)).2.2.length ac) (gR (Q.map rowOf)).2.2.length (acs (gR (Q.map rowOf)).2.2)
theorem graph_bad {w w' : World} {rb k line : Nat} {Q : List Rw} {E : Int} (hg : gR (Q.map rowOf) = ((E, line), 0, [])) (ho : Off rb w w') (hr : Rd w' rb Q k line) : GphA w rb Q (.returned (.tuple #[.agg #[.int .i64 0, .slice none 0 0], errV E])) w' := by
  unfold GphA
  rw [hg]
  exact ⟨none, 0, k, line, rfl, ho, hr, fun _ => rfl, World.ownsRow_nil _ _ _ _⟩
theorem set_zero {rb z : Nat} {w W : World} {x y : Value} (h : Off rb w W) (hz : w.heap.size ≤ z) (hg : W.heap[z]? = some (.cells #[x, y] 24)) (u v : Value) : Off rb w ((W.setCell ⟨z, 0, none⟩ u).setCell ⟨z, 1, none⟩ v) ∧ ∀ {Q : List Rw} {k line : Nat}, Rd W rb Q k line → Rd ((W.setCell ⟨z, 0, none⟩ u).setCell ⟨z, 1, none⟩ v) rb Q k line := by
  have far : ∀ j, j ≠ z → ((W.setCell ⟨z, 0, none⟩ u).setCell ⟨z, 1, none⟩ v).heap[j]? = W.heap[j]? := fun j hj => (Below.heap_setCell _ _ _ _ (by exact hj)).trans (Below.heap_setCell _ _ _ _ (by exact hj))
  have sz : ((W.setCell ⟨z, 0, none⟩ u).setCell ⟨z, 1, none⟩ v).heap.size = W.heap.size := by simp [World.setCell]
  refine ⟨⟨h.os, h.tape, h.output, by rw [sz]; exact h.size, fun j hj hn => (far j (by omega)).trans (h.block j hj hn)⟩, fun hR => ?_⟩
  obtain ⟨ro, rc, b1, b2, b3⟩ := hR.box
  refine ⟨⟨ro, rc, (far _ (at_ne b1 hg gr_ne.2.2.2.1)).trans b1, b2, fun hk => ?_⟩, fun q hq => ?_, hR.few⟩
  · obtain ⟨b, e, c2, g1, g2⟩ := b3 hk
    exact ⟨b, e, c2, (far _ (at_ne g1 hg gr_ne.2.2.2.2.2.1)).trans g1, g2⟩
  · obtain ⟨c2, g1, g2⟩ := hR.wds q hq
    exact ⟨c2, (far _ (at_ne g1 hg gr_ne.2.2.2.2.2.2.1)).trans g1, g2⟩

theorem graph_ok {w W : World} {rb z k line gb N b7 b8 ac : Nat} {Q : List Rw} {ao : Option Addr} {A : List Arc3} (hg : gR (Q.map rowOf) = ((0, 0), N, A)) (h : GrS w z rb Q k line gb N b7 b8 (.slice ao A.length ac) (.slice ao A.length ac) A W) :
    GphA w rb Q (.returned (.tuple #[.agg #[.int .i64 (N : Int), .slice ao A.length ac], .nilIface])) ((W.setCell ⟨z, 0, none⟩ (.int .i64 (N : Int))).setCell ⟨z, 1, none⟩ (.slice ao A.length ac)) := by
  obtain ⟨g1, g2⟩ := set_zero h.off h.zlt.1 h.res (.int .i64 (N : Int)) (.slice ao A.length ac)
  unfold GphA
  rw [hg]
  refine ⟨ao, ac, k, line, rfl, g1, g2 h.rd, fun e => absurd rfl e, aown_keep h.own fun j c hj => ?_⟩
  have hn := at_ne hj h.res gr_ne.2.2.1
  exact ((Below.heap_setCell _ _ _ _ hn).trans (Below.heap_setCell _ _ _ _ hn)).trans hj

set_option maxRecDepth 100000 in
set_option maxHeartbeats 8000000 in
theorem graph_calls (w : World) (rb : Nat) (Q : List Rw) (h : Rd w rb Q 0 0) :
    Calls Tryz.prog 25 #[.pointer (some ⟨rb, 0, none⟩)] w (GphA w rb Q) := by
  obtain ⟨z, hz⟩ : ∃ z, w.heap.size = z := ⟨_, rfl⟩
  obtain ⟨W1, hW1⟩ : ∃ W1, (w.alloc (.cells #[.int .i64 0, .slice none 0 0] 24)).alloc (.cells #[.int .u64 65537, .int .i64 9, .int .u64 262145, .int .i64 9] 120) = W1 := ⟨_, rfl⟩
  have HW1 : Hid ((w.alloc (.cells #[.int .i64 0, .slice none 0 0] 24)).alloc (.cells #[.int .u64 65537, .int .i64 9, .int .u64 262145, .int .i64 9] 120) = W1) := hW1
  have n0 : W1.heap[z]? = some (.cells #[.int .i64 0, .slice none 0 0] 24) := by rw [← hW1, ← hz]; exact (Below.heap_alloc _ _ _ (by simp)).trans (heap_newG _ _)
  have n1 : W1.heap[z + 1]? = some (.cells #[.int .u64 65537, .int .i64 9, .int .u64 262145, .int .i64 9] 120) := by
    have g := heap_newG (w.alloc (.cells #[.int .i64 0, .slice none 0 0] 24)) (.cells #[.int .u64 65537, .int .i64 9, .int .u64 262145, .int .i64 9] 120)
    rw [World.size_alloc, hW1, hz] at g
    exact g
  have hb1 : Below w.heap.size w W1 := by rw [← hW1]; exact ((Below.refl _ _).alloc (Nat.le_refl _) _).alloc (by simp) _
  have HRC : Hid (Calls Tryz.prog 45 #[.pointer (some ⟨rb, 0, none⟩), .string ⟨#[103, 114, 97, 112, 104]⟩, .slice (some ⟨z + 1, 0, none⟩) 2 2] W1 (RowA W1 rb Q 0 0 gwd bG)) := by
    refine row_calls W1 rb Q 0 0 ⟨#[103, 114, 97, 112, 104]⟩ (some ⟨z + 1, 0, none⟩) 2 bG (h.keep hb1) (fun j b hj => ⟨z + 1, _, rfl, n1, ?_⟩) (fun b hb => ?_) (by decide)
    · rcases j with _ | _ | j
      · simp [bG] at hj; subst hj; exact ⟨rfl, rfl⟩
      · simp [bG] at hj; subst hj; exact ⟨rfl, rfl⟩
      · simp [bG] at hj
    · simp [bG] at hb
      rcases hb with rfl | rfl <;> decide
  have H1 : Hid (Off rb w W1 ∧ W1.heap[z]? = some (.cells #[.int .i64 0, .slice none 0 0] 24) ∧ w.heap.size ≤ z ∧ z < W1.heap.size ∧ Rd W1 rb Q 0 0) := ⟨Off.of hb1, n0, by omega, (Array.getElem?_eq_some_iff.1 n0).1, h.keep hb1⟩
  obtain ⟨R, hR⟩ : ∃ R, Q.map rowOf = R := ⟨_, rfl⟩
  have HR : Hid (Q.map rowOf = R) := hR
  clear hW1 n0 n1 hb1 h hR
  go_enter Tryz.func25, Tryz.ntmps25
  go_wp2_with fail
  rw [HW1.out]
  refine HRC.out.mono ?_
  rintro e y1 ⟨E, k1, l1, nv, rfl, hrd, hof, hcs⟩
  obtain ⟨s1, s2, s3⟩ := row_spec rfl hcs
  rw [HR.out] at s1 s2 s3
  have HO1 : Hid (Off rb w y1 ∧ Rd y1 rb Q k1 l1 ∧ y1.heap[z]? = some (.cells #[.int .i64 0, .slice none 0 0] 24)) := by
    obtain ⟨ro, rc, b1, _⟩ := H1.out.2.2.2.2.box
    exact ⟨H1.out.1.trans hof, hrd, (hof.block z H1.out.2.2.2.1 (at_ne H1.out.2.1 b1 gr_ne.1)).trans H1.out.2.1⟩
  clear hcs hof hrd
  by_cases hE : E = 0
  · obtain ⟨hk0, hk1, hl1, g, hnv, hgn, ncur, hgc, hcl⟩ := s3 hE
    have hgl := (Array.getElem?_eq_some_iff.1 hgc).1
    have HE0 : Hid (rE R 0 gwd bG = 0) := by rw [← s1]; exact hE
    subst hnv hk1 hE
    have hev : errV 0 = .nilIface := rfl
    rw [hev]
    obtain ⟨N, hN⟩ : ∃ N, val (wdK R 0 1) = N := ⟨_, rfl⟩
    obtain ⟨m, hm⟩ : ∃ m, val (wdK R 0 2) = m := ⟨_, rfl⟩
    have hNm : N < 65537 ∧ m < 262145 := by
      have hR0 : R[0]? = some (R.getD 0 (0, [])) := by
        rw [List.getD_eq_getElem?_getD, List.getElem?_eq_getElem (by rw [← HR.out, List.length_map]; exact hk0)]
        rfl
      have e1 := HE0.out
      unfold rE at e1
      rw [hR0] at e1
      have e2 := (row_num e1).2
      have a1 := e2 0 (65537, 9) rfl
      have a2 := e2 1 (262145, 9) rfl
      rw [← hN, ← hm]
      exact ⟨a1.resolve_right (by decide), a2.resolve_right (by decide)⟩
    have d0 : y1.cell? ⟨g, 0, none⟩ = some (.int .i64 (N : Int)) := by rw [← hN]; simp [World.cell?, hgc, hcl 0 (by decide)]
    have d1 : y1.cell? ⟨g, 1, none⟩ = some (.int .i64 (m : Int)) := by rw [← hm]; simp [World.cell?, hgc, hcl 1 (by decide)]
    have HNM : Hid (gR R = if (gF R N m 1 []).1.1 = 0 then ((0, 0), N, (gF R N m 1 []).2) else ((gF R N m 1 []).1, 0, [])) := by
      show _ = _
      unfold gR
      rw [if_neg (by rw [HE0.out]; decide), hN, hm]
    have w1 : IntKind.u64.wrap (N : Int) = (N : Int) := by rw [IntKind.wrap_u64]; omega
    have HL1 : Hid (l1 = lnK R 1) := hl1
    clear s1 s2 s3 hcl hl1 hN hm hev
    have hlen : bG.length = 2 := rfl
    rw [hlen]
    clear hlen
    obtain ⟨gb, hgb⟩ : ∃ gb, y1.heap.size = gb := ⟨_, rfl⟩
    obtain ⟨W5, hW5⟩ : ∃ W5, ((y1.alloc (.cells #[.int .i64 (N : Int), .slice none 0 0] 24)).alloc (.cells #[.int .u64 (N : Int), .int .i64 7] 120)).alloc (.cells #[.int .u64 2147483648, .int .i64 8] 120) = W5 := ⟨_, rfl⟩
    have HW5 : Hid (((y1.alloc (.cells #[.int .i64 (N : Int), .slice none 0 0] 24)).alloc (.cells #[.int .u64 (N : Int), .int .i64 7] 120)).alloc (.cells #[.int .u64 2147483648, .int .i64 8] 120) = W5) := hW5
    have hb5 : Below y1.heap.size y1 W5 := by rw [← hW5]; exact (((Below.refl _ _).alloc (Nat.le_refl _) _).alloc (by simp) _).alloc (by simp; omega) _
    have HG5 : Hid (GrS w z rb Q 1 l1 gb N (gb + 1) (gb + 1 + 1) (.slice none 0 0) (.slice none 0 0) [] W5 ∧ W5.cell? ⟨g, 1, none⟩ = some (.int .i64 (m : Int)) ∧ g < W5.heap.size) := by
      have m0 : W5.heap[gb]? = some (.cells #[.int .i64 (N : Int), .slice none 0 0] 24) := by
        rw [← hW5, ← hgb]
        exact (Below.heap_alloc _ _ _ (by simp; omega)).trans ((Below.heap_alloc _ _ _ (by simp)).trans (heap_newG _ _))
      have m1 : W5.heap[gb + 1]? = some (.cells #[.int .u64 (N : Int), .int .i64 7] 120) := by
        have q := heap_newG (y1.alloc (.cells #[.int .i64 (N : Int), .slice none 0 0] 24)) (.cells #[.int .u64 (N : Int), .int .i64 7] 120)
        rw [World.size_alloc, hgb] at q
        rw [← hW5]
        exact (Below.heap_alloc _ _ _ (by rw [World.size_alloc, World.size_alloc, hgb]; omega)).trans q
      have m2 : W5.heap[gb + 1 + 1]? = some (.cells #[.int .u64 2147483648, .int .i64 8] 120) := by
        have q := heap_newG ((y1.alloc (.cells #[.int .i64 (N : Int), .slice none 0 0] 24)).alloc (.cells #[.int .u64 (N : Int), .int .i64 7] 120)) (.cells #[.int .u64 2147483648, .int .i64 8] 120)
        rw [World.size_alloc, World.size_alloc, hgb, hW5] at q
        exact q
      have kz := HO1.out.2.2
      have zl1 := (Array.getElem?_eq_some_iff.1 kz).1
      exact ⟨⟨HO1.out.2.1.keep hb5, HO1.out.1.trans (Off.of hb5), (hb5.block _ zl1).trans kz, m0, World.ownsRow_nil _ _ _ _, m1, m2, H1.out.2.2.1, by rw [← hgb]; exact HO1.out.1.size, by omega⟩, (hb5.cell (p := ⟨g, 1, none⟩) hgl).trans d1, Nat.lt_of_lt_of_le hgl hb5.size⟩
    have hgF0 : gF R N m 1 [] = gF R N (m - 0) (1 + 0) [] := rfl
    obtain ⟨FF, hFF⟩ : ∃ FF, gF R N m 1 [] = FF := ⟨_, rfl⟩
    rw [hFF] at HNM hgF0
    have HF0 : Hid (FF = gF R N (m - 0) (1 + 0) []) := hgF0
    obtain ⟨i0, hi9, hzz⟩ := Option.map_eq_some_iff.1 infoArc
    simp only [Prod.mk.injEq] at hzz
    have HI0 : Hid (Tryz.prog.info? 50 = some i0 ∧ i0.zero = some (.agg #[.int .i64 0, .int .i64 0, .int .i64 0]) ∧ i0.size = 3 ∧ i0.bytes = 24) := ⟨hi9, hzz⟩
    have HQN : Hid (0 < Q.length ∧ N < 65537) := ⟨hk0, hNm.1⟩
    have hm2 : m < 262145 := hNm.2
    clear hW5 hb5 hgF0 hFF hi9 hzz hgc hk0 hNm
    go_upto_region 6 with fail
    rw [HW5.out]
    try rw [hgb]
    clear HW5 d0 d1 w1 hgl
    obtain ⟨_, d1, hgl⟩ := HG5.out
    go_wp2_with fail
    clear d1 hgl
    go_loopw [37] (fun iv wr => ∃ i : Nat, i ≤ m ∧ iv = .int .i64 i ∧ Hid (∃ (l : Nat) (ao : Option Addr) (ac : Nat) (A : List Arc3), GrS w z rb Q (1 + i) l gb N (gb + 1) (gb + 1 + 1) (.slice ao A.length ac) (.slice ao A.length ac) A wr ∧ l = lnK R (1 + i) ∧ A.length = i ∧ FF = gF R N (m - i) (1 + i) A)) (fun iv _ => m - (intOf iv).toNat)
    case atStart => exact ⟨0, Nat.zero_le _, rfl, l1, none, 0, [], HG5.out.1, HL1.out, rfl, HF0.out⟩
    case round =>
      obtain ⟨i, hi, rfl, HI⟩ := hrel
      obtain ⟨l, ao, ac, A, hG, hl, hA, hFe⟩ := HI.out
      have HA : Hid (A.length = i) := hA
      have HLA : Hid (A.length + 1 ≤ maxLen) := by show A.length + 1 ≤ maxLen; unfold maxLen; omega
      clear HI hA
      rcases Nat.lt_or_eq_of_le hi with h1 | h1
      · have j3 : decide ((i : Int) < (m : Int)) = true := by simp; omega
        obtain ⟨p, hp⟩ : ∃ p, wr.heap.size = p := ⟨_, rfl⟩
        obtain ⟨W8, hW8⟩ : ∃ W8, wr.alloc (.cells #[.int .u64 (N : Int), .int .i64 7, .int .u64 (N : Int), .int .i64 7, .int .u64 2147483648, .int .i64 8] 120) = W8 := ⟨_, rfl⟩
        have HW8 : Hid (wr.alloc (.cells #[.int .u64 (N : Int), .int .i64 7, .int .u64 (N : Int), .int .i64 7, .int .u64 2147483648, .int .i64 8] 120) = W8) := hW8
        have n8 : W8.heap[p]? = some (.cells #[.int .u64 (N : Int), .int .i64 7, .int .u64 (N : Int), .int .i64 7, .int .u64 2147483648, .int .i64 8] 120) := by rw [← hW8, ← hp]; exact heap_newG _ _
        have hG8 := hG.up (show Below wr.heap.size wr W8 by rw [← hW8]; exact (Below.refl _ _).alloc (Nat.le_refl _) _)
        have HRC : Hid (Calls Tryz.prog 45 #[.pointer (some ⟨rb, 0, none⟩), .string ⟨#[97, 114, 99]⟩, .slice (some ⟨p, 0, none⟩) 3 3] W8 (RowA W8 rb Q (1 + i) l awd (bA N))) := by
          refine row_calls W8 rb Q (1 + i) l ⟨#[97, 114, 99]⟩ (some ⟨p, 0, none⟩) 3 (bA N) hG8.rd (fun j b hj => ⟨p, _, rfl, n8, ?_⟩) (fun b hb => ?_) (by show 3 ≤ 100; decide)
          · rcases j with _ | _ | _ | j
            · simp [bA] at hj; subst hj; exact ⟨rfl, rfl⟩
            · simp [bA] at hj; subst hj; exact ⟨rfl, rfl⟩
            · simp [bA] at hj; subst hj; exact ⟨rfl, rfl⟩
            · simp [bA] at hj
          · simp [bA] at hb
            have := HQN.out.2
            rcases hb with rfl | rfl
            · exact ⟨by show N ≤ 4294967296; omega, by show (7 : Int) ≠ 0; decide⟩
            · decide
        have c70 : wr.cell? ⟨gb + 1, 0, none⟩ = some (.int .u64 (N : Int)) := by simp [World.cell?, hG.bd7]
        have c71 : wr.cell? ⟨gb + 1, 1, none⟩ = some (.int .i64 7) := by simp [World.cell?, hG.bd7]
        have c80 : wr.cell? ⟨gb + 1 + 1, 0, none⟩ = some (.int .u64 2147483648) := by simp [World.cell?, hG.bd8]
        have c81 : wr.cell? ⟨gb + 1 + 1, 1, none⟩ = some (.int .i64 8) := by simp [World.cell?, hG.bd8]
        have l7 : gb + 1 < wr.heap.size := (Array.getElem?_eq_some_iff.1 hG.bd7).1
        have l8 : gb + 1 + 1 < wr.heap.size := (Array.getElem?_eq_some_iff.1 hG.bd8).1
        have HG8 : Hid (GrS w z rb Q (1 + i) l gb N (gb + 1) (gb + 1 + 1) (.slice ao A.length ac) (.slice ao A.length ac) A W8 ∧ l = lnK R (1 + i) ∧ FF = gF R N (m - i) (1 + i) A) := ⟨hG8, hl, hFe⟩
        clear hW8 n8 hG8 hG hl hFe
        go_wp2_with fail
        rw [HW8.out]
        refine HRC.out.mono ?_
        rintro e y2 ⟨E, k2, l2, nv, rfl, hrd, hof, hcs⟩
        obtain ⟨s1, s2, s3⟩ := row_spec (by rw [HR.out]; exact HG8.out.2.1) hcs
        rw [HR.out] at s1 s2 s3
        obtain ⟨m', hm'⟩ : ∃ m', m - i = m' + 1 := ⟨m - i - 1, by omega⟩
        clear hcs c70 c71 c80 c81 l7 l8
        by_cases hE : E = 0
        · obtain ⟨hk0, hk1, hl1, g2, hnv, hgn, ncur, hgc, hcl⟩ := s3 hE
          subst hnv hk1 hE
          have hlen : (bA N).length = 3 := rfl
          rw [hlen] at hcl ⊢
          obtain ⟨v1, hv1⟩ : ∃ v1, val (wdK R (1 + i) 1) = v1 := ⟨_, rfl⟩
          obtain ⟨v2, hv2⟩ : ∃ v2, val (wdK R (1 + i) 2) = v2 := ⟨_, rfl⟩
          obtain ⟨v3, hv3⟩ : ∃ v3, val (wdK R (1 + i) 3) = v3 := ⟨_, rfl⟩
          have hN3 : Nm3 y2 g2 v1 v2 v3 := ⟨ncur, hgc, by rw [← hv1]; exact hcl 0 (by omega), by rw [← hv2]; exact hcl 1 (by omega), by rw [← hv3]; exact hcl 2 (by omega)⟩
          have hG2 : GrS w z rb Q (1 + i + 1) l2 gb N (gb + 1) (gb + 1 + 1) (.slice ao A.length ac) (.slice ao A.length ac) A y2 := HG8.out.1.took hof hrd
          have HG2 : Hid (∀ wx, Below y2.heap.size y2 wx → GrS w z rb Q (1 + i + 1) l2 gb N (gb + 1) (gb + 1 + 1) (.slice ao A.length ac) (.slice ao A.length ac) A wx ∧ (fun w' : World => w'.cell? ⟨g2, 0, none⟩ = some (.int .i64 (v1 : Int)) ∧ w'.cell? ⟨g2, 1, none⟩ = some (.int .i64 (v2 : Int)) ∧ w'.cell? ⟨g2, 2, none⟩ = some (.int .i64 (v3 : Int)) ∧ Hid (Nm3 w' g2 v1 v2 v3)) wx) := fun wx hb => by
            have a1 := hG2.up hb
            have a2 := hN3.far fun {c} hc => (hb.block _ (Array.getElem?_eq_some_iff.1 hc).1).trans hc
            obtain ⟨a3, a4, a5⟩ := a2.cells
            exact ⟨a1, a3, a4, a5, a2⟩
          have HFN : Hid (l2 = lnK R (1 + (i + 1)) ∧ FF = gF R N (m - (i + 1)) (1 + (i + 1)) (A ++ [((v1 : Int), (v2 : Int), (v3 : Int))])) := by
            refine ⟨by rw [hl1]; rfl, ?_⟩
            have e1 : m - (i + 1) = m' := by rw [Nat.sub_add_eq, hm']; rfl
            have e2 : 1 + (i + 1) = 1 + i + 1 := rfl
            rw [HG8.out.2.2, hm', gF, if_neg (by rw [← s1]; decide), e1, e2]
            unfold arcK
            rw [hv1, hv2, hv3]
          have hev : errV 0 = .nilIface := rfl
          rw [hev]
          clear hev s1 s2 s3 hcl hv1 hv2 hv3 hN3 hG2 hof hrd hgc hk0 hl1 hlen hm'
          go_upto_region 11 with fail
          refine wp_region_M (S := (fun w' : World => w'.cell? ⟨g2, 0, none⟩ = some (.int .i64 (v1 : Int)) ∧ w'.cell? ⟨g2, 1, none⟩ = some (.int .i64 (v2 : Int)) ∧ w'.cell? ⟨g2, 2, none⟩ = some (.int .i64 (v3 : Int)) ∧ Hid (Nm3 w' g2 v1 v2 v3))) (by kernel_rfl) (HG2.out _ (Below.refl _ _).drew).2 ?_
          refine wpAnyM_take (i := 0) (oi := { dst := Option.some 52, op := Op.fieldAddr 24 (Operand.tmp 6) 1, type := 0, pos := "gtext.go:104", after := #[], guard := Option.none }) (v := ?vb1z0) rfl (by kernel_rfl) (by kernel_rfl) (by kernel_rfl) (fun _ _ _ h => h) (YieldsM.of_if (Or.inl ⟨by rfl, ?hb1z0⟩)) ?rb1z0
          case hb1z0 => ((intro wz hSw; (try dsimp only at hSw); go_simp); try (with_reducible rfl))
          try simp only [Act.put, List.setIfInBounds_toArray, List.set_cons_zero, List.set_cons_succ]
          refine wpAnyM_take (i := 2) (oi := { dst := Option.some 54, op := Op.move (Operand.tmp 9), type := 63, pos := "gtext.go:104", after := #[], guard := Option.none }) (v := ?vb2z2) rfl (by kernel_rfl) (by kernel_rfl) (by kernel_rfl) (fun _ _ _ h => h) (YieldsM.of_if (Or.inl ⟨by rfl, ?hb2z2⟩)) ?rb2z2
          case hb2z2 => ((intro wz hSw; (try dsimp only at hSw); go_simp); try (with_reducible rfl))
          try simp only [Act.put, List.setIfInBounds_toArray, List.set_cons_zero, List.set_cons_succ]
          refine wpAnyM_take (i := 3) (oi := { dst := Option.some 55, op := Op.indexAddr 63 (Operand.tmp 54) (Operand.const (Value.int IntKind.i64 0)), type := 0, pos := "gtext.go:104", after := #[{ on := 2, ground := Ground.data }], guard := Option.none }) (v := ?vb3z3) rfl (by kernel_rfl) (by kernel_rfl) (by kernel_rfl) (fun _ _ _ h => h) (YieldsM.of_if (Or.inl ⟨by rfl, ?hb3z3⟩)) ?rb3z3
          case hb3z3 => ((intro wz hSw; (try dsimp only at hSw); go_simp); try (with_reducible rfl))
          try simp only [Act.put, List.setIfInBounds_toArray, List.set_cons_zero, List.set_cons_succ]
          refine wpAnyM_take (i := 4) (oi := { dst := Option.some 56, op := Op.load 3 (Operand.tmp 55), type := 3, pos := "gtext.go:104", after := #[{ on := 3, ground := Ground.data }], guard := Option.none }) (v := ?vb4z4) rfl (by kernel_rfl) (by kernel_rfl) (by kernel_rfl) (fun _ _ _ h => h) (YieldsM.of_if (Or.inl ⟨by rfl, ?hb4z4⟩)) ?rb4z4
          case hb4z4 => ((intro wz hSw; (try dsimp only at hSw); go_simp); try (with_reducible rfl))
          try simp only [Act.put, List.setIfInBounds_toArray, List.set_cons_zero, List.set_cons_succ]
          refine wpAnyM_take (i := 5) (oi := { dst := Option.some 57, op := Op.move (Operand.tmp 9), type := 63, pos := "gtext.go:104", after := #[], guard := Option.none }) (v := ?vb5z5) rfl (by kernel_rfl) (by kernel_rfl) (by kernel_rfl) (fun _ _ _ h => h) (YieldsM.of_if (Or.inl ⟨by rfl, ?hb5z5⟩)) ?rb5z5
          case hb5z5 => ((intro wz hSw; (try dsimp only at hSw); go_simp); try (with_reducible rfl))
          try simp only [Act.put, List.setIfInBounds_toArray, List.set_cons_zero, List.set_cons_succ]
          refine wpAnyM_take (i := 6) (oi := { dst := Option.some 58, op := Op.indexAddr 63 (Operand.tmp 57) (Operand.const (Value.int IntKind.i64 1)), type := 0, pos := "gtext.go:104", after := #[{ on := 5, ground := Ground.data }], guard := Option.none }) (v := ?vb6z6) rfl (by kernel_rfl) (by kernel_rfl) (by kernel_rfl) (fun _ _ _ h => h) (YieldsM.of_if (Or.inl ⟨by rfl, ?hb6z6⟩)) ?rb6z6
          case hb6z6 => ((intro wz hSw; (try dsimp only at hSw); go_simp); try (with_reducible rfl))
          try simp only [Act.put, List.setIfInBounds_toArray, List.set_cons_zero, List.set_cons_succ]
          refine wpAnyM_take (i := 7) (oi := { dst := Option.some 59, op := Op.load 3 (Operand.tmp 58), type := 3, pos := "gtext.go:104", after := #[{ on := 6, ground := Ground.data }], guard := Option.none }) (v := ?vb7z7) rfl (by kernel_rfl) (by kernel_rfl) (by kernel_rfl) (fun _ _ _ h => h) (YieldsM.of_if (Or.inl ⟨by rfl, ?hb7z7⟩)) ?rb7z7
          case hb7z7 => ((intro wz hSw; (try dsimp only at hSw); go_simp); try (with_reducible rfl))
          try simp only [Act.put, List.setIfInBounds_toArray, List.set_cons_zero, List.set_cons_succ]
          refine wpAnyM_take (i := 8) (oi := { dst := Option.some 60, op := Op.move (Operand.tmp 9), type := 63, pos := "gtext.go:104", after := #[], guard := Option.none }) (v := ?vb8z8) rfl (by kernel_rfl) (by kernel_rfl) (by kernel_rfl) (fun _ _ _ h => h) (YieldsM.of_if (Or.inl ⟨by rfl, ?hb8z8⟩)) ?rb8z8
          case hb8z8 => ((intro wz hSw; (try dsimp only at hSw); go_simp); try (with_reducible rfl))
          try simp only [Act.put, List.setIfInBounds_toArray, List.set_cons_zero, List.set_cons_succ]
          refine wpAnyM_take (i := 9) (oi := { dst := Option.some 61, op := Op.indexAddr 63 (Operand.tmp 60) (Operand.const (Value.int IntKind.i64 2)), type := 0, pos := "gtext.go:104", after := #[{ on := 8, ground := Ground.data }], guard := Option.none }) (v := ?vb9z9) rfl (by kernel_rfl) (by kernel_rfl) (by kernel_rfl) (fun _ _ _ h => h) (YieldsM.of_if (Or.inl ⟨by rfl, ?hb9z9⟩)) ?rb9z9
          case hb9z9 => ((intro wz hSw; (try dsimp only at hSw); go_simp); try (with_reducible rfl))
          try simp only [Act.put, List.setIfInBounds_toArray, List.set_cons_zero, List.set_cons_succ]
          refine wpAnyM_take (i := 10) (oi := { dst := Option.some 62, op := Op.load 3 (Operand.tmp 61), type := 3, pos := "gtext.go:104", after := #[{ on := 9, ground := Ground.data }], guard := Option.none }) (v := ?vb10z10) rfl (by kernel_rfl) (by kernel_rfl) (by kernel_rfl) (fun _ _ _ h => h) (YieldsM.of_if (Or.inl ⟨by rfl, ?hb10z10⟩)) ?rb10z10
          case hb10z10 => ((intro wz hSw; (try dsimp only at hSw); go_simp); try (with_reducible rfl))
          try simp only [Act.put, List.setIfInBounds_toArray, List.set_cons_zero, List.set_cons_succ]
          refine wpAnyM_take (i := 11) (oi := { dst := Option.some 63, op := Op.build 50 #[(0, Operand.tmp 56), (1, Operand.tmp 59), (2, Operand.tmp 62)], type := 50, pos := "gtext.go:104", after := #[{ on := 4, ground := Ground.data }, { on := 7, ground := Ground.data }, { on := 10, ground := Ground.data }], guard := Option.none }) (v := ?vb11z11) rfl (by kernel_rfl) (by kernel_rfl) (by kernel_rfl) (fun _ _ _ h => h) (YieldsM.of_if (Or.inl ⟨by rfl, ?hb11z11⟩)) ?rb11z11
          case hb11z11 => ((intro wz hSw; (try dsimp only at hSw); go_simp); try (with_reducible rfl))
          try simp only [Act.put, List.setIfInBounds_toArray, List.set_cons_zero, List.set_cons_succ]
          refine ready2M (i := 1) (j := 12) (oi := { dst := Option.some 53, op := Op.load 22 (Operand.tmp 52), type := 22, pos := "gtext.go:104", after := #[{ on := 0, ground := Ground.data }], guard := Option.none }) (oj := { dst := Option.some 64, op := Op.buildSlice 22 1 #[(0, Operand.tmp 63)], type := 22, pos := "gtext.go:104", after := #[{ on := 11, ground := Ground.data }], guard := Option.none }) rfl rfl (by kernel_rfl) ?_ ?_
          · intro u0 hg0 hS0 K hK
            have b0 : Below y2.heap.size y2 u0 := btrG (Below.refl _ _).drew hg0
            have c0 : u0.cell? ⟨gb, 1, none⟩ = some (.slice ao A.length ac) := by simp [World.cell?, (HG2.out _ b0).1.gbx]
            rw [if_pos (by rfl)]
            go_simp
            refine hK.out _ _ hS0 ?_
            clear hK K c0
            try simp only [Act.put, List.setIfInBounds_toArray, List.set_cons_zero, List.set_cons_succ]
            refine readyM (i := 12) (o := { dst := Option.some 64, op := Op.buildSlice 22 1 #[(0, Operand.tmp 63)], type := 22, pos := "gtext.go:104", after := #[{ on := 11, ground := Ground.data }], guard := Option.none }) rfl (by kernel_rfl) ?_
            intro u1 hg1 hS1 K hK
            rw [if_pos (by rfl)]
            have b1 : Below y2.heap.size y2 u1 := btrG b0 hg1
            have G1 : Hid (GrS w z rb Q (1 + i + 1) l2 gb N (gb + 1) (gb + 1 + 1) (.slice ao A.length ac) (.slice ao A.length ac) A (u1.alloc (.cells #[.int .i64 (v1 : Int), .int .i64 (v2 : Int), .int .i64 (v3 : Int)] 50)) ∧ (fun w' : World => w'.cell? ⟨g2, 0, none⟩ = some (.int .i64 (v1 : Int)) ∧ w'.cell? ⟨g2, 1, none⟩ = some (.int .i64 (v2 : Int)) ∧ w'.cell? ⟨g2, 2, none⟩ = some (.int .i64 (v3 : Int)) ∧ Hid (Nm3 w' g2 v1 v2 v3)) (u1.alloc (.cells #[.int .i64 (v1 : Int), .int .i64 (v2 : Int), .int .i64 (v3 : Int)] 50)) ∧ (u1.alloc (.cells #[.int .i64 (v1 : Int), .int .i64 (v2 : Int), .int .i64 (v3 : Int)] 50)).heap[u1.heap.size]? = some (.cells #[.int .i64 (v1 : Int), .int .i64 (v2 : Int), .int .i64 (v3 : Int)] 50)) := ⟨(HG2.out _ (btrG b1 ((Below.refl _ _).alloc (Nat.le_refl _) _))).1, (HG2.out _ (btrG b1 ((Below.refl _ _).alloc (Nat.le_refl _) _))).2, heap_newG _ _⟩
            clear hS1 hg1 b1
            go_simp
            refine hK.out _ _ G1.out.2.1 ?_
            clear hK K
            obtain ⟨g3, hg3⟩ : ∃ g3, u1.heap.size = g3 := ⟨_, rfl⟩
            rw [hg3] at G1 ⊢
            generalize u1.alloc (.cells #[.int .i64 (v1 : Int), .int .i64 (v2 : Int), .int .i64 (v3 : Int)] 50) = U2 at G1 ⊢
            clear hg3
            try simp only [Act.put, List.setIfInBounds_toArray, List.set_cons_zero, List.set_cons_succ]
            refine readyM (i := 13) (o := { dst := Option.some 65, op := Op.call { callee := Callee.builtin Builtin.append, args := #[Operand.tmp 53, Operand.tmp 64], argTypes := #[22, 22] }, type := 22, pos := "gtext.go:104", after := #[{ on := 1, ground := Ground.data }, { on := 12, ground := Ground.data }], guard := Option.none }) rfl (by kernel_rfl) ?_
            intro u3 hg3 hS3 K hK
            rw [if_pos (by rfl)]
            have G3 : Hid (GrS w z rb Q (1 + i + 1) l2 gb N (gb + 1) (gb + 1 + 1) (.slice ao A.length ac) (.slice ao A.length ac) A u3 ∧ u3.heap[g3]? = some (.cells #[.int .i64 (v1 : Int), .int .i64 (v2 : Int), .int .i64 (v3 : Int)] 50)) := ⟨G1.out.1.up hg3, (Below.block hg3 _ (Array.getElem?_eq_some_iff.1 G1.out.2.2).1).trans G1.out.2.2⟩
            refine wp_append_lies u3 _ _ 22 rfl w.heap.size 50 i0 (.agg #[.int .i64 0, .int .i64 0, .int .i64 0]) 3 24 Tryz.underlying22 HI0.out.1 HI0.out.2.1 HI0.out.2.2.1 HI0.out.2.2.2 rfl (by decide) (.slice ao A.length ac) A.length (acs A) rfl G3.out.1.own ⟨g3, 0, none⟩ 1 1 (acs [((v1 : Int), (v2 : Int), (v3 : Int))]) rfl rfl (fun a u ha => by
              have ha0 := (List.getElem?_eq_some_iff.1 ha).1
              have e9 : (⟨g3, 0, none⟩ : Addr).add a = ⟨g3, a, none⟩ := by
                by_cases h0 : a = 0
                · subst h0; rfl
                · simp [Addr.add, h0]
              rw [e9]
              simp only [World.cell?, G3.out.2]
              have e8 : acs [((v1 : Int), (v2 : Int), (v3 : Int))] = [.int .i64 (v1 : Int), .int .i64 (v2 : Int), .int .i64 (v3 : Int)] := rfl
              rw [e8] at ha
              simpa using ha) (acs_one _) (by decide) HLA.out (by have := HA.out; omega) G3.out.1.off.size _ rfl ?_
            intro g5 cap5 w5 hown5 hgr5 hor5 hlt5
            obtain ⟨h5, h5f⟩ := G3.out.1.grow hown5 hgr5
            have H5 : Hid (GrS w z rb Q (1 + i + 1) l2 gb N (gb + 1) (gb + 1 + 1) (.slice ao A.length ac) (.slice (some ⟨g5, 0, none⟩) (A.length + 1) cap5) (A ++ [((v1 : Int), (v2 : Int), (v3 : Int))]) w5) := h5
            have HSN : Hid ((fun w' : World => w'.cell? ⟨g2, 0, none⟩ = some (.int .i64 (v1 : Int)) ∧ w'.cell? ⟨g2, 1, none⟩ = some (.int .i64 (v2 : Int)) ∧ w'.cell? ⟨g2, 2, none⟩ = some (.int .i64 (v3 : Int)) ∧ Hid (Nm3 w' g2 v1 v2 v3)) w5) := by
              have a2 : Nm3 w5 g2 v1 v2 v3 := hS3.2.2.2.out.far fun {c} hc => h5f int_ne.1 hc
              obtain ⟨a3, a4, a5⟩ := a2.cells
              exact ⟨a3, a4, a5, a2⟩
            clear h5 h5f
            clear hown5 hgr5 hor5 hlt5 hg3 hS3 G1 G3
            refine hK.out _ _ HSN.out ?_
            clear hK K
            try simp only [Act.put, List.setIfInBounds_toArray, List.set_cons_zero, List.set_cons_succ]
            refine wpAnyM_take (i := 14) (oi := { dst := Option.some 66, op := Op.fieldAddr 24 (Operand.tmp 6) 1, type := 0, pos := "gtext.go:104", after := #[{ on := 0, ground := Ground.phase }, { on := 1, ground := Ground.phase }, { on := 2, ground := Ground.phase }, { on := 3, ground := Ground.phase }, { on := 4, ground := Ground.phase }, { on := 5, ground := Ground.phase }, { on := 6, ground := Ground.phase }, { on := 7, ground := Ground.phase }, { on := 8, ground := Ground.phase }, { on := 9, ground := Ground.phase }, { on := 10, ground := Ground.phase }, { on := 11, ground := Ground.phase }, { on := 12, ground := Ground.phase }, { on := 13, ground := Ground.phase }], guard := Option.none }) (v := ?vc12z14) rfl (by kernel_rfl) (by kernel_rfl) (by kernel_rfl) (fun _ _ _ h => h) (YieldsM.of_if (Or.inl ⟨by rfl, ?hc12z14⟩)) ?rc12z14
            case hc12z14 => ((intro wz hSw; (try dsimp only at hSw); go_simp); try (with_reducible rfl))
            try simp only [Act.put, List.setIfInBounds_toArray, List.set_cons_zero, List.set_cons_succ]
            refine readyM (i := 15) (o := { dst := Option.none, op := Op.store 22 (Operand.tmp 66) (Operand.tmp 65), type := 0, pos := "gtext.go:104", after := #[{ on := 14, ground := Ground.data }, { on := 13, ground := Ground.data }, { on := 13, ground := Ground.chain }, { on := 0, ground := Ground.phase }, { on := 1, ground := Ground.phase }, { on := 2, ground := Ground.phase }, { on := 3, ground := Ground.phase }, { on := 4, ground := Ground.phase }, { on := 5, ground := Ground.phase }, { on := 6, ground := Ground.phase }, { on := 7, ground := Ground.phase }, { on := 8, ground := Ground.phase }, { on := 9, ground := Ground.phase }, { on := 10, ground := Ground.phase }, { on := 11, ground := Ground.phase }, { on := 12, ground := Ground.phase }, { on := 13, ground := Ground.phase }], guard := Option.none }) rfl (by kernel_rfl) ?_
            intro u6 hg6 hS6 K hK
            rw [if_pos (by rfl)]
            have H6 : Hid (GrS w z rb Q (1 + i + 1) l2 gb N (gb + 1) (gb + 1 + 1) (.slice ao A.length ac) (.slice (some ⟨g5, 0, none⟩) (A.length + 1) cap5) (A ++ [((v1 : Int), (v2 : Int), (v3 : Int))]) u6 ∧ Nm3 u6 g2 v1 v2 v3) := ⟨H5.out.up hg6, hS6.2.2.2.out⟩
            have c6 : u6.cell? ⟨gb, 1, none⟩ = some (.slice ao A.length ac) := by simp [World.cell?, H6.out.1.gbx]
            have f6 : u6.frozen? ⟨gb, 1, none⟩ = false := by simp [World.frozen?, H6.out.1.gbx]
            go_simp
            have H7 : Hid (GrS w z rb Q (1 + i + 1) l2 gb N (gb + 1) (gb + 1 + 1) (.slice (some ⟨g5, 0, none⟩) (A.length + 1) cap5) (.slice (some ⟨g5, 0, none⟩) (A.length + 1) cap5) (A ++ [((v1 : Int), (v2 : Int), (v3 : Int))]) (u6.setCell ⟨gb, 1, none⟩ (.slice (some ⟨g5, 0, none⟩) (A.length + 1) cap5)) ∧ (fun w' : World => w'.cell? ⟨g2, 0, none⟩ = some (.int .i64 (v1 : Int)) ∧ w'.cell? ⟨g2, 1, none⟩ = some (.int .i64 (v2 : Int)) ∧ w'.cell? ⟨g2, 2, none⟩ = some (.int .i64 (v3 : Int)) ∧ Hid (Nm3 w' g2 v1 v2 v3)) (u6.setCell ⟨gb, 1, none⟩ (.slice (some ⟨g5, 0, none⟩) (A.length + 1) cap5))) := by
              have a2 : Nm3 (u6.setCell ⟨gb, 1, none⟩ (.slice (some ⟨g5, 0, none⟩) (A.length + 1) cap5)) g2 v1 v2 v3 := H6.out.2.far fun {c} hc => (Below.heap_setCell _ _ _ _ (at_ne hc H6.out.1.gbx int_ne.2.2)).trans hc
              obtain ⟨a3, a4, a5⟩ := a2.cells
              exact ⟨H6.out.1.store, a3, a4, a5, a2⟩
            refine hK.out _ _ H7.out.2 ?_
            clear hK K c6 f6 hg6 hS6 H6 H5 HSN
            generalize u6.setCell ⟨gb, 1, none⟩ (.slice (some ⟨g5, 0, none⟩) (A.length + 1) cap5) = U7 at H7 ⊢
            try simp only [Act.put, List.setIfInBounds_toArray, List.set_cons_zero, List.set_cons_succ]
            refine wpAnyM_done (by kernel_rfl) ?_ _
            intro u9 hg9 hS9
            have H9 : Hid (GrS w z rb Q (1 + i + 1) l2 gb N (gb + 1) (gb + 1 + 1) (.slice (some ⟨g5, 0, none⟩) (A.length + 1) cap5) (.slice (some ⟨g5, 0, none⟩) (A.length + 1) cap5) (A ++ [((v1 : Int), (v2 : Int), (v3 : Int))]) u9) := H7.out.1.up hg9
            clear hS9 hg9 H7
            go_wp2_with fail
            go_roundw
            case rel => exact ⟨i + 1, by omega, by rw [show (i : Int) + 1 = ((i + 1 : Nat) : Int) by omega], l2, some ⟨g5, 0, none⟩, cap5, (A ++ [((v1 : Int), (v2 : Int), (v3 : Int))]), by rw [List.length_append]; exact H9.out, HFN.out.1, by rw [List.length_append, HA.out]; rfl, HFN.out.2⟩
            case measure => simp only [intOf]; omega
          · intro u1 hg1 hS1 K hK
            rw [if_pos (by rfl)]
            have b1 : Below y2.heap.size y2 u1 := btrG (Below.refl _ _).drew hg1
            have G1 : Hid (GrS w z rb Q (1 + i + 1) l2 gb N (gb + 1) (gb + 1 + 1) (.slice ao A.length ac) (.slice ao A.length ac) A (u1.alloc (.cells #[.int .i64 (v1 : Int), .int .i64 (v2 : Int), .int .i64 (v3 : Int)] 50)) ∧ (fun w' : World => w'.cell? ⟨g2, 0, none⟩ = some (.int .i64 (v1 : Int)) ∧ w'.cell? ⟨g2, 1, none⟩ = some (.int .i64 (v2 : Int)) ∧ w'.cell? ⟨g2, 2, none⟩ = some (.int .i64 (v3 : Int)) ∧ Hid (Nm3 w' g2 v1 v2 v3)) (u1.alloc (.cells #[.int .i64 (v1 : Int), .int .i64 (v2 : Int), .int .i64 (v3 : Int)] 50)) ∧ (u1.alloc (.cells #[.int .i64 (v1 : Int), .int .i64 (v2 : Int), .int .i64 (v3 : Int)] 50)).heap[u1.heap.size]? = some (.cells #[.int .i64 (v1 : Int), .int .i64 (v2 : Int), .int .i64 (v3 : Int)] 50)) := ⟨(HG2.out _ (btrG b1 ((Below.refl _ _).alloc (Nat.le_refl _) _))).1, (HG2.out _ (btrG b1 ((Below.refl _ _).alloc (Nat.le_refl _) _))).2, heap_newG _ _⟩
            clear hS1 hg1 b1
            go_simp
            refine hK.out _ _ G1.out.2.1 ?_
            clear hK K
            obtain ⟨g3, hg3⟩ : ∃ g3, u1.heap.size = g3 := ⟨_, rfl⟩
            rw [hg3] at G1 ⊢
            generalize u1.alloc (.cells #[.int .i64 (v1 : Int), .int .i64 (v2 : Int), .int .i64 (v3 : Int)] 50) = U2 at G1 ⊢
            clear hg3
            try simp only [Act.put, List.setIfInBounds_toArray, List.set_cons_zero, List.set_cons_succ]
            refine readyM (i := 1) (o := { dst := Option.some 53, op := Op.load 22 (Operand.tmp 52), type := 22, pos := "gtext.go:104", after := #[{ on := 0, ground := Ground.data }], guard := Option.none }) rfl (by kernel_rfl) ?_
            intro u0 hg0 hS0 K hK
            have G0 : Hid (GrS w z rb Q (1 + i + 1) l2 gb N (gb + 1) (gb + 1 + 1) (.slice ao A.length ac) (.slice ao A.length ac) A u0 ∧ u0.heap[g3]? = some (.cells #[.int .i64 (v1 : Int), .int .i64 (v2 : Int), .int .i64 (v3 : Int)] 50)) := ⟨G1.out.1.up hg0, (Below.block hg0 _ (Array.getElem?_eq_some_iff.1 G1.out.2.2).1).trans G1.out.2.2⟩
            have c0 : u0.cell? ⟨gb, 1, none⟩ = some (.slice ao A.length ac) := by simp [World.cell?, (G1.out.1.up hg0).gbx]
            rw [if_pos (by rfl)]
            go_simp
            refine hK.out _ _ hS0 ?_
            clear hK K c0
            try simp only [Act.put, List.setIfInBounds_toArray, List.set_cons_zero, List.set_cons_succ]
            refine readyM (i := 13) (o := { dst := Option.some 65, op := Op.call { callee := Callee.builtin Builtin.append, args := #[Operand.tmp 53, Operand.tmp 64], argTypes := #[22, 22] }, type := 22, pos := "gtext.go:104", after := #[{ on := 1, ground := Ground.data }, { on := 12, ground := Ground.data }], guard := Option.none }) rfl (by kernel_rfl) ?_
            intro u3 hg3 hS3 K hK
            rw [if_pos (by rfl)]
            have G3 : Hid (GrS w z rb Q (1 + i + 1) l2 gb N (gb + 1) (gb + 1 + 1) (.slice ao A.length ac) (.slice ao A.length ac) A u3 ∧ u3.heap[g3]? = some (.cells #[.int .i64 (v1 : Int), .int .i64 (v2 : Int), .int .i64 (v3 : Int)] 50)) := ⟨G0.out.1.up hg3, (Below.block hg3 _ (Array.getElem?_eq_some_iff.1 G0.out.2).1).trans G0.out.2⟩
            refine wp_append_lies u3 _ _ 22 rfl w.heap.size 50 i0 (.agg #[.int .i64 0, .int .i64 0, .int .i64 0]) 3 24 Tryz.underlying22 HI0.out.1 HI0.out.2.1 HI0.out.2.2.1 HI0.out.2.2.2 rfl (by decide) (.slice ao A.length ac) A.length (acs A) rfl G3.out.1.own ⟨g3, 0, none⟩ 1 1 (acs [((v1 : Int), (v2 : Int), (v3 : Int))]) rfl rfl (fun a u ha => by
              have ha0 := (List.getElem?_eq_some_iff.1 ha).1
              have e9 : (⟨g3, 0, none⟩ : Addr).add a = ⟨g3, a, none⟩ := by
                by_cases h0 : a = 0
                · subst h0; rfl
                · simp [Addr.add, h0]
              rw [e9]
              simp only [World.cell?, G3.out.2]
              have e8 : acs [((v1 : Int), (v2 : Int), (v3 : Int))] = [.int .i64 (v1 : Int), .int .i64 (v2 : Int), .int .i64 (v3 : Int)] := rfl
              rw [e8] at ha
              simpa using ha) (acs_one _) (by decide) HLA.out (by have := HA.out; omega) G3.out.1.off.size _ rfl ?_
            intro g5 cap5 w5 hown5 hgr5 hor5 hlt5
            obtain ⟨h5, h5f⟩ := G3.out.1.grow hown5 hgr5
            have H5 : Hid (GrS w z rb Q (1 + i + 1) l2 gb N (gb + 1) (gb + 1 + 1) (.slice ao A.length ac) (.slice (some ⟨g5, 0, none⟩) (A.length + 1) cap5) (A ++ [((v1 : Int), (v2 : Int), (v3 : Int))]) w5) := h5
            have HSN : Hid ((fun w' : World => w'.cell? ⟨g2, 0, none⟩ = some (.int .i64 (v1 : Int)) ∧ w'.cell? ⟨g2, 1, none⟩ = some (.int .i64 (v2 : Int)) ∧ w'.cell? ⟨g2, 2, none⟩ = some (.int .i64 (v3 : Int)) ∧ Hid (Nm3 w' g2 v1 v2 v3)) w5) := by
              have a2 : Nm3 w5 g2 v1 v2 v3 := hS3.2.2.2.out.far fun {c} hc => h5f int_ne.1 hc
              obtain ⟨a3, a4, a5⟩ := a2.cells
              exact ⟨a3, a4, a5, a2⟩
            clear h5 h5f
            clear hown5 hgr5 hor5 hlt5 hg3 hS3 G1 G3
            refine hK.out _ _ HSN.out ?_
            clear hK K
            try simp only [Act.put, List.setIfInBounds_toArray, List.set_cons_zero, List.set_cons_succ]
            refine wpAnyM_take (i := 14) (oi := { dst := Option.some 66, op := Op.fieldAddr 24 (Operand.tmp 6) 1, type := 0, pos := "gtext.go:104", after := #[{ on := 0, ground := Ground.phase }, { on := 1, ground := Ground.phase }, { on := 2, ground := Ground.phase }, { on := 3, ground := Ground.phase }, { on := 4, ground := Ground.phase }, { on := 5, ground := Ground.phase }, { on := 6, ground := Ground.phase }, { on := 7, ground := Ground.phase }, { on := 8, ground := Ground.phase }, { on := 9, ground := Ground.phase }, { on := 10, ground := Ground.phase }, { on := 11, ground := Ground.phase }, { on := 12, ground := Ground.phase }, { on := 13, ground := Ground.phase }], guard := Option.none }) (v := ?vc13z14) rfl (by kernel_rfl) (by kernel_rfl) (by kernel_rfl) (fun _ _ _ h => h) (YieldsM.of_if (Or.inl ⟨by rfl, ?hc13z14⟩)) ?rc13z14
            case hc13z14 => ((intro wz hSw; (try dsimp only at hSw); go_simp); try (with_reducible rfl))
            try simp only [Act.put, List.setIfInBounds_toArray, List.set_cons_zero, List.set_cons_succ]
            refine readyM (i := 15) (o := { dst := Option.none, op := Op.store 22 (Operand.tmp 66) (Operand.tmp 65), type := 0, pos := "gtext.go:104", after := #[{ on := 14, ground := Ground.data }, { on := 13, ground := Ground.data }, { on := 13, ground := Ground.chain }, { on := 0, ground := Ground.phase }, { on := 1, ground := Ground.phase }, { on := 2, ground := Ground.phase }, { on := 3, ground := Ground.phase }, { on := 4, ground := Ground.phase }, { on := 5, ground := Ground.phase }, { on := 6, ground := Ground.phase }, { on := 7, ground := Ground.phase }, { on := 8, ground := Ground.phase }, { on := 9, ground := Ground.phase }, { on := 10, ground := Ground.phase }, { on := 11, ground := Ground.phase }, { on := 12, ground := Ground.phase }, { on := 13, ground := Ground.phase }], guard := Option.none }) rfl (by kernel_rfl) ?_
            intro u6 hg6 hS6 K hK
            rw [if_pos (by rfl)]
            have H6 : Hid (GrS w z rb Q (1 + i + 1) l2 gb N (gb + 1) (gb + 1 + 1) (.slice ao A.length ac) (.slice (some ⟨g5, 0, none⟩) (A.length + 1) cap5) (A ++ [((v1 : Int), (v2 : Int), (v3 : Int))]) u6 ∧ Nm3 u6 g2 v1 v2 v3) := ⟨H5.out.up hg6, hS6.2.2.2.out⟩
            have c6 : u6.cell? ⟨gb, 1, none⟩ = some (.slice ao A.length ac) := by simp [World.cell?, H6.out.1.gbx]
            have f6 : u6.frozen? ⟨gb, 1, none⟩ = false := by simp [World.frozen?, H6.out.1.gbx]
            go_simp
            have H7 : Hid (GrS w z rb Q (1 + i + 1) l2 gb N (gb + 1) (gb + 1 + 1) (.slice (some ⟨g5, 0, none⟩) (A.length + 1) cap5) (.slice (some ⟨g5, 0, none⟩) (A.length + 1) cap5) (A ++ [((v1 : Int), (v2 : Int), (v3 : Int))]) (u6.setCell ⟨gb, 1, none⟩ (.slice (some ⟨g5, 0, none⟩) (A.length + 1) cap5)) ∧ (fun w' : World => w'.cell? ⟨g2, 0, none⟩ = some (.int .i64 (v1 : Int)) ∧ w'.cell? ⟨g2, 1, none⟩ = some (.int .i64 (v2 : Int)) ∧ w'.cell? ⟨g2, 2, none⟩ = some (.int .i64 (v3 : Int)) ∧ Hid (Nm3 w' g2 v1 v2 v3)) (u6.setCell ⟨gb, 1, none⟩ (.slice (some ⟨g5, 0, none⟩) (A.length + 1) cap5))) := by
              have a2 : Nm3 (u6.setCell ⟨gb, 1, none⟩ (.slice (some ⟨g5, 0, none⟩) (A.length + 1) cap5)) g2 v1 v2 v3 := H6.out.2.far fun {c} hc => (Below.heap_setCell _ _ _ _ (at_ne hc H6.out.1.gbx int_ne.2.2)).trans hc
              obtain ⟨a3, a4, a5⟩ := a2.cells
              exact ⟨H6.out.1.store, a3, a4, a5, a2⟩
            refine hK.out _ _ H7.out.2 ?_
            clear hK K c6 f6 hg6 hS6 H6 H5 HSN
            generalize u6.setCell ⟨gb, 1, none⟩ (.slice (some ⟨g5, 0, none⟩) (A.length + 1) cap5) = U7 at H7 ⊢
            try simp only [Act.put, List.setIfInBounds_toArray, List.set_cons_zero, List.set_cons_succ]
            refine wpAnyM_done (by kernel_rfl) ?_ _
            intro u9 hg9 hS9
            have H9 : Hid (GrS w z rb Q (1 + i + 1) l2 gb N (gb + 1) (gb + 1 + 1) (.slice (some ⟨g5, 0, none⟩) (A.length + 1) cap5) (.slice (some ⟨g5, 0, none⟩) (A.length + 1) cap5) (A ++ [((v1 : Int), (v2 : Int), (v3 : Int))]) u9) := H7.out.1.up hg9
            clear hS9 hg9 H7
            go_wp2_with fail
            go_roundw
            case rel => exact ⟨i + 1, by omega, by rw [show (i : Int) + 1 = ((i + 1 : Nat) : Int) by omega], l2, some ⟨g5, 0, none⟩, cap5, (A ++ [((v1 : Int), (v2 : Int), (v3 : Int))]), by rw [List.length_append]; exact H9.out, HFN.out.1, by rw [List.length_append, HA.out]; rfl, HFN.out.2⟩
            case measure => simp only [intOf]; omega
        · have HG : Hid (gR (Q.map rowOf) = ((E, l2), 0, [])) := by
            show _ = _
            have e3 : FF = ((E, l2), []) := by rw [HG8.out.2.2, hm', gF, if_pos (by rw [← s1]; exact hE), ← s1, ← s2]
            rw [HR.out, HNM.out, e3, if_neg hE]
          have hG2 : GrS w z rb Q k2 l2 gb N (gb + 1) (gb + 1 + 1) (.slice ao A.length ac) (.slice ao A.length ac) A y2 := HG8.out.1.took hof hrd
          have HG2 : Hid (GrS w z rb Q k2 l2 gb N (gb + 1) (gb + 1 + 1) (.slice ao A.length ac) (.slice ao A.length ac) A y2) := hG2
          have hev : errV E = .iface 29 (.int .i64 E) := by unfold errV; rw [if_neg hE]
          have HEE : Hid (E ≠ 0 ∧ errV E = .iface 29 (.int .i64 E)) := ⟨hE, hev⟩
          have c0 : y2.cell? ⟨z, 0, none⟩ = some (.int .i64 0) := by simp [World.cell?, hG2.res]
          have c1 : y2.cell? ⟨z, 1, none⟩ = some (.slice none 0 0) := by simp [World.cell?, hG2.res]
          have f0 : y2.frozen? ⟨z, 0, none⟩ = false := by simp [World.frozen?, hG2.res]
          have f1 : y2.frozen? ⟨z, 1, none⟩ = false := by simp [World.frozen?, hG2.res]
          rw [hev]
          clear s1 s2 s3 hE hev hG2 hof hrd hm'
          go_wp2
          obtain ⟨g1, g2⟩ := set_zero HG2.out.off HG2.out.zlt.1 HG2.out.res (.int .i64 0) (.slice none 0 0)
          refine bodyPost_ret (graph_res (set_twoG HG2.out.res _ _) rfl rfl) rfl ?_
          rw [← HEE.out.2]
          exact graph_bad HG.out g1 (g2 HG2.out.rd)
      · have j3 : decide ((i : Int) < (m : Int)) = false := by simp; omega
        subst h1
        have HRC : Hid (Calls Tryz.prog 45 #[.pointer (some ⟨rb, 0, none⟩), .string ⟨#[101, 110, 100]⟩, .slice none 0 0] wr (RowA wr rb Q (1 + i) l ewd [])) := row_calls wr rb Q (1 + i) l ⟨#[101, 110, 100]⟩ none 0 [] hG.rd (fun j b hj => by simp at hj) (fun b hb => by simp at hb) (by decide)
        have HG8 : Hid (GrS w z rb Q (1 + i) l gb N (gb + 1) (gb + 1 + 1) (.slice ao A.length ac) (.slice ao A.length ac) A wr ∧ l = lnK R (1 + i) ∧ FF = gF R N 0 (1 + i) A) := ⟨hG, hl, by rw [Nat.sub_self] at hFe; exact hFe⟩
        clear hG hl hFe
        go_wp2_with fail
        refine HRC.out.mono ?_
        rintro e y2 ⟨E, k2, l2, nv, rfl, hrd, hof, hcs⟩
        obtain ⟨s1, s2, s3⟩ := row_spec (by rw [HR.out]; exact HG8.out.2.1) hcs
        rw [HR.out] at s1 s2 s3
        have hG2 : GrS w z rb Q k2 l2 gb N (gb + 1) (gb + 1 + 1) (.slice ao A.length ac) (.slice ao A.length ac) A y2 := HG8.out.1.took hof hrd
        clear hcs
        by_cases hE : E = 0
        · obtain ⟨hk0, hk1, hl1, _⟩ := s3 hE
          subst hk1 hE
          have HG2 : Hid (GrS w z rb Q (1 + i + 1) l2 gb N (gb + 1) (gb + 1 + 1) (.slice ao A.length ac) (.slice ao A.length ac) A y2 ∧ rE R (1 + i) ewd [] = 0) := ⟨hG2, s1.symm⟩
          have HT : Hid (Calls Tryz.prog 46 #[.pointer (some ⟨rb, 0, none⟩)] y2 _) := take_calls y2 rb Q (1 + i + 1) l2 hG2.rd
          have hev : errV 0 = .nilIface := rfl
          rw [hev]
          clear hev s1 s2 s3 hof hrd hl1 hk0 hG2
          go_wp2_with fail
          refine HT.out.mono ?_
          rintro e y3 (⟨h9, rfl, rfl⟩ | ⟨q, h9, rfl, h10, h11⟩)
          · have HG : Hid (gR (Q.map rowOf) = ((0, 0), N, A)) := by
              show _ = _
              have e3 : FF = ((0, 0), A) := by rw [HG8.out.2.2, gF, if_neg (by rw [HG2.out.2]; decide), if_neg (by rw [← HR.out, List.length_map]; omega)]
              rw [HR.out, HNM.out, e3]
              rfl
            have r2 := HG2.out.1.res
            have b2 := HG2.out.1.gbx
            have c0 : y3.cell? ⟨z, 0, none⟩ = some (.int .i64 0) := by simp [World.cell?, r2]
            have c1 : y3.cell? ⟨z, 1, none⟩ = some (.slice none 0 0) := by simp [World.cell?, r2]
            have f0 : y3.frozen? ⟨z, 0, none⟩ = false := by simp [World.frozen?, r2]
            have f1 : y3.frozen? ⟨z, 1, none⟩ = false := by simp [World.frozen?, r2]
            have d0 : y3.cell? ⟨gb, 0, none⟩ = some (.int .i64 (N : Int)) := by simp [World.cell?, b2]
            have d1 : y3.cell? ⟨gb, 1, none⟩ = some (.slice ao A.length ac) := by simp [World.cell?, b2]
            clear r2 b2 h9
            go_wp2
            refine bodyPost_ret (graph_res (set_twoG HG2.out.1.res _ _) rfl rfl) rfl ?_
            exact graph_ok HG.out HG2.out.1
          · have hGt : GrS w z rb Q (1 + i + 1 + 1) q.1 gb N (gb + 1) (gb + 1 + 1) (.slice ao A.length ac) (.slice ao A.length ac) A y3 := HG2.out.1.took h11 h10
            have HG : Hid (gR (Q.map rowOf) = ((6, q.1), 0, [])) := by
              show _ = _
              have hq := (List.getElem?_eq_some_iff.1 h9).1
              have e4 : lnK R (1 + i + 2) = q.1 := by
                show (R.getD (1 + i + 1) (0, [])).1 = q.1
                rw [List.getD_eq_getElem?_getD, ← HR.out, List.getElem?_map, h9]
                rfl
              have e3 : FF = ((6, q.1), []) := by rw [HG8.out.2.2, gF, if_neg (by rw [HG2.out.2]; decide), if_pos (by rw [← HR.out, List.length_map]; exact hq), e4]
              rw [HR.out, HNM.out, e3]
              rfl
            have r2 := hGt.res
            have c0 : y3.cell? ⟨z, 0, none⟩ = some (.int .i64 0) := by simp [World.cell?, r2]
            have c1 : y3.cell? ⟨z, 1, none⟩ = some (.slice none 0 0) := by simp [World.cell?, r2]
            have f0 : y3.frozen? ⟨z, 0, none⟩ = false := by simp [World.frozen?, r2]
            have f1 : y3.frozen? ⟨z, 1, none⟩ = false := by simp [World.frozen?, r2]
            have HGt : Hid (GrS w z rb Q (1 + i + 1 + 1) q.1 gb N (gb + 1) (gb + 1 + 1) (.slice ao A.length ac) (.slice ao A.length ac) A y3) := hGt
            clear r2 h9 h10 h11 hGt
            go_wp2
            obtain ⟨g1, g2⟩ := set_zero HGt.out.off HGt.out.zlt.1 HGt.out.res (.int .i64 0) (.slice none 0 0)
            refine bodyPost_ret (graph_res (set_twoG HGt.out.res _ _) rfl rfl) rfl ?_
            exact graph_bad HG.out g1 (g2 HGt.out.rd)
        · have HG : Hid (gR (Q.map rowOf) = ((E, l2), 0, [])) := by
            show _ = _
            have e3 : FF = ((E, l2), []) := by rw [HG8.out.2.2, gF, if_pos (by rw [← s1]; exact hE), ← s1, ← s2]
            rw [HR.out, HNM.out, e3, if_neg hE]
          have HG2 : Hid (GrS w z rb Q k2 l2 gb N (gb + 1) (gb + 1 + 1) (.slice ao A.length ac) (.slice ao A.length ac) A y2) := hG2
          have hev : errV E = .iface 29 (.int .i64 E) := by unfold errV; rw [if_neg hE]
          have HEE : Hid (E ≠ 0 ∧ errV E = .iface 29 (.int .i64 E)) := ⟨hE, hev⟩
          have c0 : y2.cell? ⟨z, 0, none⟩ = some (.int .i64 0) := by simp [World.cell?, hG2.res]
          have c1 : y2.cell? ⟨z, 1, none⟩ = some (.slice none 0 0) := by simp [World.cell?, hG2.res]
          have f0 : y2.frozen? ⟨z, 0, none⟩ = false := by simp [World.frozen?, hG2.res]
          have f1 : y2.frozen? ⟨z, 1, none⟩ = false := by simp [World.frozen?, hG2.res]
          rw [hev]
          clear s1 s2 s3 hE hev hG2 hof hrd
          go_wp2
          obtain ⟨g1, g2⟩ := set_zero HG2.out.off HG2.out.zlt.1 HG2.out.res (.int .i64 0) (.slice none 0 0)
          refine bodyPost_ret (graph_res (set_twoG HG2.out.res _ _) rfl rfl) rfl ?_
          rw [← HEE.out.2]
          exact graph_bad HG.out g1 (g2 HG2.out.rd)
  · have HG : Hid (gR (Q.map rowOf) = ((E, l1), 0, [])) := by
      show _ = _
      rw [HR.out]
      unfold gR
      rw [if_pos (by rw [← s1]; exact hE), ← s1, ← s2]
    have hev : errV E = .iface 29 (.int .i64 E) := by unfold errV; rw [if_neg hE]
    have HEE : Hid (E ≠ 0 ∧ errV E = .iface 29 (.int .i64 E)) := ⟨hE, hev⟩
    have c0 : y1.cell? ⟨z, 0, none⟩ = some (.int .i64 0) := by simp [World.cell?, HO1.out.2.2]
    have c1 : y1.cell? ⟨z, 1, none⟩ = some (.slice none 0 0) := by simp [World.cell?, HO1.out.2.2]
    have f0 : y1.frozen? ⟨z, 0, none⟩ = false := by simp [World.frozen?, HO1.out.2.2]
    have f1 : y1.frozen? ⟨z, 1, none⟩ = false := by simp [World.frozen?, HO1.out.2.2]
    rw [hev]
    clear s1 s2 s3 hE hev
    go_wp2
    obtain ⟨g1, g2⟩ := set_zero HO1.out.1 H1.out.2.2.1 HO1.out.2.2 (.int .i64 0) (.slice none 0 0)
    refine bodyPost_ret (graph_res (set_twoG HO1.out.2.2 _ _) rfl rfl) rfl ?_
    rw [← HEE.out.2]
    exact graph_bad HG.out g1 (g2 HO1.out.2.1)
end Go.Proofs.YthgmhhlgjooeaaaGreatDoor.Gt
