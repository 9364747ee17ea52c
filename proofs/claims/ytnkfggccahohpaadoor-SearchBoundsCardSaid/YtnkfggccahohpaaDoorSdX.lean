/- viaductref08.DocBounded at right arrays and a node of theirs. -/
import Derived.Test.YtnkfggccahohpaaDoorSdW
import Derived.Test.YtnkfggccahohpaaDoorSdC
import Derived.Deep.RegionLaw
import Derived.Deep.RegionHeldLaw
import Derived.BigRegion
namespace Go.Proofs.YtnkfggccahohpaaDoor
open Go.RowKit Go.Extern

attribute [local go_sem] Oper.semAt_some

/-- the lists of a search, and its box. -/
structure LM (n : Nat) (w : World) (bx db kb hb sb : Nat) (D K : List Int) (Ha Se : List Bool) : Prop where
  box : w.heap[bx]? = some (.cells #[.slice (some ⟨db, 0, none⟩) n n, .slice (some ⟨kb, 0, none⟩) n n, .slice (some ⟨hb, 0, none⟩) n n, .slice (some ⟨sb, 0, none⟩) n n] 101)
  d : U64s w db D
  k : IRow w kb K
  h : Bools w hb Ha
  s : Bools w sb Se
theorem LM.keep {n : Nat} {w w' : World} {bx db kb hb sb : Nat} {D K : List Int} {Ha Se : List Bool} (r : LM n w bx db kb hb sb D K Ha Se) (hb' : Below w.heap.size w w') : LM n w' bx db kb hb sb D K Ha Se :=
  ⟨(hb'.block _ (lt_of_get r.box)).trans r.box, (hb'.block _ (lt_of_get r.d)).trans r.d, (hb'.block _ (lt_of_get r.k)).trans r.k, (hb'.block _ (lt_of_get r.h)).trans r.h, (hb'.block _ (lt_of_get r.s)).trans r.s⟩
/-- the labels of the first nodes. -/
def labP (S : FS) (i : Nat) : List Int := St.allB 0 ((S.vs.map Option.isSome).take i)
theorem labP_zero (S : FS) : labP S 0 = [] := rfl
theorem labP_none {S : FS} {i : Nat} (h : S.vs[i]? = some none) : labP S (i + 1) = labP S i := by
  unfold labP
  rw [St.allB_take (b := false) (by simp [h])]
  simp
theorem labP_some {S : FS} {i : Nat} {d : Int} (h : S.vs[i]? = some (some d)) : labP S (i + 1) = labP S i ++ [(i : Int)] := by
  unfold labP
  rw [St.allB_take (b := true) (by simp [h])]
  simp
theorem labP_len (S : FS) (i : Nat) : (labP S i).length ≤ i := by
  unfold labP
  refine Nat.le_trans (St.allB_len _ _) ?_
  rw [List.length_take]
  omega
theorem labP_all {S : FS} {n : Nat} (h : S.vs.length = n) : labP S n = labN S := by
  unfold labP labN
  rw [← h, show S.vs.length = (S.vs.map Option.isSome).length by simp, List.take_length]
theorem lrow_keep {w w' : World} {B n : Nat} {v : Value} {xs : List Value} (h : w.ownsRow B 57 4 v n xs) (hk : ∀ k, v.ownBlock = some k → w'.heap[k]? = w.heap[k]?) : w'.ownsRow B 57 4 v n xs := by
  obtain ⟨h1, h2⟩ := h
  refine ⟨h1, ?_⟩
  rcases h2 with h2 | ⟨g, cap, cur, e, hb, hh, r⟩
  · exact Or.inl h2
  · subst e
    exact Or.inr ⟨g, cap, cur, rfl, hb, (hk g rfl).trans hh, r⟩
theorem lrow_below {w w' : World} {B n : Nat} {v : Value} {xs : List Value} (h : w.ownsRow B 57 4 v n xs) (hb : Below w.heap.size w w') : w'.ownsRow B 57 4 v n xs := lrow_keep h fun k hk => hb.block _ (h.lt k hk).2
theorem lrow_low {w : World} {B B' n : Nat} {v : Value} {xs : List Value} (h : w.ownsRow B 57 4 v n xs) (hb : B' ≤ B) : w.ownsRow B' 57 4 v n xs := by
  obtain ⟨q1, q2⟩ := h
  refine ⟨q1, ?_⟩
  rcases q2 with q2 | ⟨g, cap, cur, e, hg, r⟩
  · exact Or.inl q2
  · exact Or.inr ⟨g, cap, cur, e, Nat.le_trans hb hg, r⟩
theorem lrow_slice {w : World} {B n : Nat} {v : Value} {xs : List Value} (h : w.ownsRow B 57 4 v n xs) : ∃ ao cap, v = .slice ao n cap := by
  rcases h.2 with ⟨h, h'⟩ | ⟨g, cap, cur, h, _⟩
  · exact ⟨none, 0, by rw [h']; exact h⟩
  · exact ⟨_, cap, h⟩
theorem lrow_grown {w0 w w' : World} {base n : Nat} {xs : List Value} {v : Value} (hb : Below base w0 w) (h : w.ownsRow base 57 4 v n xs) (hg : w.grownBy w' v.ownBlock) (hs : base ≤ w.heap.size) : Below base w0 w' :=
  hb.trans ⟨hg.os, hg.tape, hg.output, hg.size, fun j hj => hg.block j (Nat.lt_of_lt_of_le hj hs) (fun e => by have := (h.lt j e.symm).1; omega)⟩
theorem four_cell' (w : World) (a b c d : Value) : ∀ j u, [a, b, c, d][j]? = some u → (w.alloc (.cells #[a, b, c, d] 57)).cell? ((⟨w.heap.size, 0, none⟩ : Addr).add j) = some u := by
  intro j u hj
  have h := heap_new w (.cells #[a, b, c, d] 57)
  generalize w.alloc (.cells #[a, b, c, d] 57) = W at h ⊢
  have ea : (⟨w.heap.size, 0, none⟩ : Addr).add j = ⟨w.heap.size, j, none⟩ := by unfold Addr.add; split <;> simp_all
  rw [ea]
  have hl := (List.getElem?_eq_some_iff.1 hj).1
  simp at hl
  rcases (show j = 0 ∨ j = 1 ∨ j = 2 ∨ j = 3 by omega) with rfl | rfl | rfl | rfl
  all_goals
    simp at hj
    subst hj
    simp [World.cell?, h]
/-- what DocBounded answers: the labels of a search that ends as Steps and RunEnd say. -/
def DocLab (n : Nat) (zs : List (Int × Int × Int)) (hops se mo : Int) (s : Nat) (S0 : FS) (w : World) (e : Ending) (w' : World) : Prop := ∃ t S lo lc, e = .returned (.tuple #[.slice lo (labN S).length lc, .agg #[.int .i64 0, .slice none 0 0]]) ∧ (Steps n zs hops mo (S0.begin n s) t S ∧ RunEnd n se mo t S) ∧ w'.ownsRow w.heap.size 57 4 (.slice lo (labN S).length lc) (labN S).length (labCs S (labN S)) ∧ Below w.heap.size w w'

set_option maxRecDepth 100000 in
set_option maxHeartbeats 8000000 in
theorem docBounded_good (n : Nat) (zs : List (Int × Int × Int)) (fo uo wo : Option Addr) (fc tc wc : Nat) (w : World) (hz : Fine n zs) (h : CsrIn w n zs fo uo wo fc tc wc) (s : Nat) (hs : s < n) (hops se mo : Int) (S0 : FS) (hD : ∀ wx, Below w.heap.size w wx → Calls Tryd.prog 27 #[.agg #[.slice fo (n + 1) fc, .slice uo zs.length tc, .slice wo zs.length wc], .int .i64 s] wx (DocAns wx (0, []))) :
    Calls Tryd.prog 17 #[.agg #[.slice fo (n + 1) fc, .slice uo zs.length tc, .slice wo zs.length wc], .int .i64 s, .int .i64 hops, .int .i64 se, .int .u64 mo] w fun e w' => DocLab n zs hops se mo s S0 w e w' := by
  have hn := hz.few
  have hsh := hz.short
  have HDB : Hid (type_of% (DB.made w (.slice fo (n + 1) fc) (.slice uo zs.length tc) (.slice wo zs.length wc))) := DB.made w (.slice fo (n + 1) fc) (.slice uo zs.length tc) (.slice wo zs.length wc)
  have HDC : Hid (type_of% hD) := hD
  have HRW : Hid (∀ wx, Below w.heap.size w wx → ∀ v : Nat, v < n → Calls Tryd.prog 35 #[.agg #[.slice fo (n + 1) fc, .slice uo zs.length tc, .slice wo zs.length wc], .int .i64 v] wx fun e w' => ∃ lo lc, e = .returned (.slice lo (arcsOf zs v).length lc) ∧ w'.ownsRow wx.heap.size 95 3 (.slice lo (arcsOf zs v).length lc) (arcsOf zs v).length (flatC (arcsOf zs v)) ∧ Below wx.heap.size wx w') := fun wx hx v hv => rRow_calls n zs fo uo wo fc tc wc wx hz (h.keep hx) v hv
  have HZ : Hid (Fine n zs) := hz
  have hw1 : IntKind.i64.wrap (((n + 1 : Nat) : Int) - 1) = (n : Int) := by rw [IntKind.wrap_i64] <;> omega
  have hmk := fun wx => run_make_row' (P := Tryd.prog) 91 96 (.slice none 0 0) 24 Tryd.underlying91 infoHs rfl .i64 .i64 n (by omega) (by omega) wx
  clear hD h hz
  go_enter Tryd.func17, Tryd.ntmps17
  go_wp2_with fail
  generalize (w.alloc (.cells #[.slice fo (n + 1) fc, .slice uo zs.length tc, .slice wo zs.length wc] 24)).alloc (.cells #[.int .i64 0, .slice none 0 0] 36) = W0 at *
  refine (HDC.out W0 HDB.out.below).mono ?_
  rintro e w1 ⟨po, pc, rfl, hP, hb⟩
  have H1 : Hid (type_of% (HDB.out.keep hb)) := HDB.out.keep hb
  clear hb hP
  go_wp2_with fail
  have H2 : Hid (DB w (.slice fo (n + 1) fc) (.slice uo zs.length tc) (.slice wo zs.length wc) (w1.alloc (.cells #[.int .i64 0, .slice po 0 pc] 36))) := H1.out.keep (below1 _ _)
  generalize w1.alloc (.cells #[.int .i64 0, .slice po 0 pc] 36) = W1 at *
  refine (bad_calls 0 po 0 pc W1).mono ?_
  rintro e w2 ⟨rfl, hb⟩
  rw [show ((0 : Int) != 0 || decide (0 < 0)) = false from rfl]
  have H3 : Hid (type_of% (H2.out.keep hb)) := H2.out.keep hb
  clear hb
  obtain ⟨c0, c1, c2⟩ := box3 H3.out.box
  have cs := lt_of_get H3.out.box
  have hrb : w.heap.size + 2 ≤ w2.heap.size := by have := lt_of_get H3.out.res; omega
  have H4 : Hid (RBd w (.slice fo (n + 1) fc) (.slice uo zs.length tc) (.slice wo zs.length wc) w2.heap.size n zs 0 [] (w2.alloc (.cells (madeCells #[.slice none 0 0] n) 96))) := ⟨H3.out.keep (below1 _ _), rfl, by rw [heap_new, made_list]; rfl, fun u x hx => by simp at hx⟩
  go_wp2_with fail
  generalize w2.alloc (.cells (madeCells #[.slice none 0 0] n) 96) = W2 at *
  generalize w2.heap.size = rb at *
  clear c0 c1 c2 cs
  go_loopw [33] (fun iv wr => ∃ v : Nat, v ≤ n ∧ iv = .int .i64 v ∧ ∃ vs, RBd w (.slice fo (n + 1) fc) (.slice uo zs.length tc) (.slice wo zs.length wc) rb n zs v vs wr) (fun iv _ => n - (intOf iv).toNat)
  case atStart => exact ⟨0, Nat.zero_le _, rfl, [], H4.out⟩
  case round =>
    obtain ⟨v, hv, rfl, vs, hRB⟩ := hrel
    have HB : Hid (RBd w (.slice fo (n + 1) fc) (.slice uo zs.length tc) (.slice wo zs.length wc) rb n zs v vs wr) := hRB
    obtain ⟨c0, c1, c2⟩ := box3 hRB.db.box
    have cs := lt_of_get hRB.db.box
    clear hRB
    by_cases hlt : v < n
    · have HCL : Hid (type_of% (HRW.out wr HB.out.db.below v hlt)) := HRW.out wr HB.out.db.below v hlt
      have hml := arcsOf_len zs v
      obtain ⟨l, hl⟩ : ∃ l, arcsOf zs v = l := ⟨_, rfl⟩
      have HLL : Hid (arcsOf zs v = l) := hl
      rw [hl] at HCL hml
      go_wp2_with fail
      refine HCL.out.mono ?_
      rintro e w4 ⟨lo, lc, rfl, ho, hb4⟩
      have H5 : Hid (RCd w (.slice fo (n + 1) fc) (.slice uo zs.length tc) (.slice wo zs.length wc) rb n zs v vs w4.heap.size (.slice lo l.length lc) [] none 0 w4) := RCd.start (HB.out.keep hb4) hlt hrb (by rw [HLL.out]; exact rowC_low ho (Nat.zero_le _))
      clear ho hb4 c0 c1 c2 cs
      generalize w4.heap.size = B at *
      go_wp2_with fail
      go_loopw [40] (fun jv wr => ∃ j : Nat, j ≤ l.length ∧ jv = .int .i64 j ∧ ∃ so sc, RCd w (.slice fo (n + 1) fc) (.slice uo zs.length tc) (.slice wo zs.length wc) rb n zs v vs B (.slice lo l.length lc) (l.take j) so sc wr) (fun jv _ => l.length - (intOf jv).toNat)
      case atStart => exact ⟨0, Nat.zero_le _, rfl, none, 0, H5.out⟩
      case round =>
        obtain ⟨j, hj, rfl, so, sc, hRC⟩ := hrel
        have HC : Hid (RCd w (.slice fo (n + 1) fc) (.slice uo zs.length tc) (.slice wo zs.length wc) rb n zs v vs B (.slice lo l.length lc) (l.take j) so sc wr) := hRC
        by_cases hjm : j < l.length
        · obtain ⟨a, ha⟩ : ∃ a, l[j]? = some a := ⟨l[j], List.getElem?_eq_getElem hjm⟩
          obtain ⟨b, off, rfl, bl, q0, q1, q2⟩ := (arcs_of_rowC (by have h := hRC.arcs.1; rw [HLL.out] at h; exact h)).at ha
          have hends := HZ.out.ends a ((HZ.out.arcRow_mem v a).1 (by have : a ∈ arcsOf zs v := by rw [HLL.out]; exact List.mem_of_getElem? ha
                                                                     exact this)).1
          have HTK : Hid (l.take (j + 1) = l.take j ++ [a]) := by
            show _ = _
            rw [List.take_add_one, ha]
            rfl
          obtain ⟨a0, a1, a2⟩ := a
          simp only at q0 q1 q2 hends
          obtain ⟨L, hL⟩ : ∃ L, l.take j = L := ⟨_, rfl⟩
          have HLJ : Hid (l.take j = L) := hL
          have hLl : L.length ≤ 262144 := by rw [← hL, List.length_take]; omega
          rw [hL] at HC HTK
          have s1 : IntKind.u64.wrap a2 = a2 := by rw [IntKind.wrap_u64] <;> omega
          have s2 : (j : Int) < (l.length : Int) := by omega
          have s3 : (0 : Int) ≤ (j : Int) := by omega
          have s4 : (v : Int) < (n : Int) := by omega
          have s5 : (0 : Int) ≤ (v : Int) := by omega
          have hal : Below wr.heap.size wr (wr.alloc (.cells #[.int .i64 a0, .int .i64 a1, .int .i64 a2] 95)) := (Below.refl _ wr).alloc (Nat.le_refl _) _
          have H6 : Hid (RCd w (.slice fo (n + 1) fc) (.slice uo zs.length tc) (.slice wo zs.length wc) rb n zs v vs B (.slice (some ⟨b, off, none⟩) l.length lc) L so sc (wr.alloc (.cells #[.int .i64 a0, .int .i64 a1, .int .i64 a2] 95)) ∧ (wr.alloc (.cells #[.int .i64 a0, .int .i64 a1, .int .i64 a2] 95)).heap[wr.heap.size]? = some (.cells #[.int .i64 a0, .int .i64 a1, .int .i64 a2] 95)) := ⟨HC.out.keep hal, heap_new _ _⟩
          clear hRC hends hL hal ha
          go_upto_region 11 with fail
          generalize wr.alloc (.cells #[.int .i64 a0, .int .i64 a1, .int .i64 a2] 95) = w5 at *
          generalize wr.heap.size = hf at *
          clear q0 q1 q2 bl
          obtain ⟨x0, x1, xl⟩ := H6.out.1.at
          obtain ⟨h0, h1, h2⟩ := box3 H6.out.2
          have hl' := lt_of_get H6.out.2
          have hal : Below w5.heap.size w5 (w5.drew.alloc (.cells #[.int .i64 a1, .int .u64 a2] 98)) := (Below.refl _ w5).drew.alloc (Nat.le_refl _) _
          have H7 : Hid (RCd w (.slice fo (n + 1) fc) (.slice uo zs.length tc) (.slice wo zs.length wc) rb n zs v vs B (.slice (some ⟨b, off, none⟩) l.length lc) L so sc (w5.drew.alloc (.cells #[.int .i64 a1, .int .u64 a2] 98))) := H6.out.1.keep hal
          clear hal
          go_region_law (first
            | (refine step_append_half rfl _ _ rfl B (.slice so L.length sc) L rfl H7.out.me ⟨w5.heap.size, 0, none⟩ 1 (a0, a1, a2) rfl (two_cell w5.drew (.int .i64 a1) (.int .u64 a2)) (by omega) H7.out.low.2.2 ?_; intro v3 w3 hown3 hgr3; obtain ⟨po, pc, hv3⟩ := rowH_slice hown3; subst hv3; have Y3 : Hid (type_of% (H7.out.put hown3 hgr3)) := H7.out.put hown3 hgr3; clear hown3 hgr3; obtain ⟨t0, t1, t2⟩ := row_at3 Y3.out.1 HC.out.lv))
          all_goals
            go_wp2
            go_roundw
            case rel =>
              refine ⟨j + 1, by omega, by go_num, po, pc, ?_⟩
              have h3 := Y3.out.2
              rw [show (L ++ [(a0, a1, a2)]).length = L.length + 1 by simp] at h3
              rw [HTK.out]
              exact h3
            case measure => simp [intOf]; omega
        · obtain rfl : j = l.length := by omega
          have HD : Hid (RBd w (.slice fo (n + 1) fc) (.slice uo zs.length tc) (.slice wo zs.length wc) rb n zs (v + 1) (vs ++ [.slice so (arcsOf zs v).length sc]) wr) := by
            have h := HC.out
            rw [List.take_length] at h
            have hl0 := HLL.out
            subst hl0
            exact h.done hlt
          clear hRC
          go_wp2
          go_roundw
          case rel => exact ⟨v + 1, by omega, by go_num, _, HD.out⟩
          case measure => simp [intOf]; omega
    · obtain rfl : v = n := by omega
      have HRN : Hid (type_of% (rRun_calls v zs rb v s hops se mo wr HZ.out hs HB.out.rowsIn S0)) := rRun_calls v zs rb v s hops se mo wr HZ.out hs HB.out.rowsIn S0
      go_wp2_with fail
      refine HRN.out.mono ?_
      rintro e w6 ⟨db, kb, hb, sb, D, K, Ha, Se, t, S, rfl, hS, hM, hb6⟩
      have hal := below1 w6 (.cells #[.slice (some ⟨db, 0, none⟩) v v, .slice (some ⟨kb, 0, none⟩) v v, .slice (some ⟨hb, 0, none⟩) v v, .slice (some ⟨sb, 0, none⟩) v v] 101)
      have H7 : Hid (DB w (.slice fo (v + 1) fc) (.slice uo zs.length tc) (.slice wo zs.length wc) (w6.alloc (.cells #[.slice (some ⟨db, 0, none⟩) v v, .slice (some ⟨kb, 0, none⟩) v v, .slice (some ⟨hb, 0, none⟩) v v, .slice (some ⟨sb, 0, none⟩) v v] 101)) ∧ LM v (w6.alloc (.cells #[.slice (some ⟨db, 0, none⟩) v v, .slice (some ⟨kb, 0, none⟩) v v, .slice (some ⟨hb, 0, none⟩) v v, .slice (some ⟨sb, 0, none⟩) v v] 101)) w6.heap.size db kb hb sb D K Ha Se) := ⟨(HB.out.db.keep hb6).keep hal, heap_new _ _, (hal.block _ (lt_of_get hM.1)).trans hM.1, (hal.block _ (lt_of_get hM.2.1)).trans hM.2.1, (hal.block _ (lt_of_get hM.2.2.1)).trans hM.2.2.1, (hal.block _ (lt_of_get hM.2.2.2)).trans hM.2.2.2⟩
      have HS : Hid (Steps v zs hops mo (S0.begin v s) t S ∧ RunEnd v se mo t S ∧ RR v S D K Ha Se) := hS
      clear hS hM hb6 hal c0 c1 c2 cs HRN
      go_wp2_with fail
      generalize w6.alloc (.cells #[.slice (some ⟨db, 0, none⟩) v v, .slice (some ⟨kb, 0, none⟩) v v, .slice (some ⟨hb, 0, none⟩) v v, .slice (some ⟨sb, 0, none⟩) v v] 101) = w7 at *
      generalize w6.heap.size = bx at *
      go_loopw [18, 69] (fun lv iv wr => ∃ (i : Nat) (lo : Option Addr) (lc : Nat), i ≤ v ∧ iv = .int .i64 i ∧ lv = .slice lo (labP S i).length lc ∧ wr.ownsRow w7.heap.size 57 4 (.slice lo (labP S i).length lc) (labP S i).length (labCs S (labP S i)) ∧ Below w7.heap.size w7 wr) (fun _ iv _ => v - (intOf iv).toNat)
      case atStart => exact ⟨0, none, 0, Nat.zero_le _, rfl, by rw [labP_zero]; rfl, by rw [labP_zero]; exact World.ownsRow_nil _ _ _ _, Below.refl _ _⟩
      case round =>
        obtain ⟨i, lo, lc, hi, rfl, rfl, hO, hbw⟩ := hrel
        have HO : Hid (wr.ownsRow w7.heap.size 57 4 (.slice lo (labP S i).length lc) (labP S i).length (labCs S (labP S i)) ∧ Below w7.heap.size w7 wr) := ⟨hO, hbw⟩
        have H8 : Hid (DB w (.slice fo (v + 1) fc) (.slice uo zs.length tc) (.slice wo zs.length wc) wr ∧ LM v wr bx db kb hb sb D K Ha Se) := ⟨H7.out.1.keep hbw, H7.out.2.keep hbw⟩
        obtain ⟨x0, x1, x2, x3⟩ := box4 H8.out.2.box
        have xl := lt_of_get H8.out.2.box
        have hPl := labP_len S i
        clear hO hbw
        by_cases hiv : i < v
        · obtain ⟨o, ho⟩ : ∃ o, S.vs[i]? = some o := ⟨S.vs[i]'(by rw [HS.out.2.2.lv]; exact hiv), List.getElem?_eq_getElem _⟩
          have HO1 : Hid (S.vs[i]? = some o) := ho
          have s1 : (i : Int) < (v : Int) := by omega
          have s2 : (0 : Int) ≤ (i : Int) := by omega
          cases o with
          | none =>
            obtain ⟨e0, el0, _⟩ := H8.out.2.h.at (HS.out.2.2.none' i ho).1
            have HPN : Hid (labP S (i + 1) = labP S i) := labP_none ho
            clear ho
            go_wp2
            go_roundw
            case rel => exact ⟨i + 1, lo, lc, by omega, by go_num, by rw [HPN.out], by rw [HPN.out]; exact HO.out.1, HO.out.2⟩
            case measure => simp [intOf]; omega
          | some d =>
            obtain ⟨g1, g2, g3, g4⟩ := HS.out.2.2.some' i d ho
            obtain ⟨e0, el0, _⟩ := H8.out.2.h.at g3
            obtain ⟨e1, el1, _⟩ := H8.out.2.d.at g1
            obtain ⟨e2, el2, _⟩ := H8.out.2.k.at g2
            obtain ⟨e3, el3, _⟩ := H8.out.2.s.at g4
            have HPN : Hid (labP S (i + 1) = labP S i ++ [(i : Int)] ∧ labC S i = [.int .i64 i, .int .u64 d, .int .i64 (S.hs i), .bool (S.f (i : Int)).isNone]) := ⟨labP_some ho, by unfold labC labD; rw [ho]⟩
            generalize S.hs i = h at *
            generalize (S.f (i : Int)).isNone = bb at *
            have HKS : Hid (∀ wx, Below w7.heap.size w7 wx → (wx.cell? ⟨bx, 0, none⟩ = some (.slice (some ⟨db, 0, none⟩) v v) ∧ wx.cell? ⟨bx, 1, none⟩ = some (.slice (some ⟨kb, 0, none⟩) v v) ∧ wx.cell? ⟨bx, 3, none⟩ = some (.slice (some ⟨sb, 0, none⟩) v v)) ∧ (wx.cell? ⟨db, i, none⟩ = some (.int .u64 d) ∧ wx.cell? ⟨kb, i, none⟩ = some (.int .i64 h) ∧ wx.cell? ⟨sb, i, none⟩ = some (.bool bb))) := fun wx hx => by
              have q := H7.out.2.keep hx
              obtain ⟨p0, p1, _, p3⟩ := box4 q.box
              exact ⟨⟨p0, p1, p3⟩, (q.d.at g1).1, (q.k.at g2).1, (q.s.at g4).1⟩
            clear ho g1 g2 g3 g4
            have hal : Below wr.heap.size wr (wr.drew.alloc (.cells #[.int .i64 i, .int .u64 d, .int .i64 h, .bool bb] 57)) := (Below.refl _ wr).drew.alloc (Nat.le_refl _) _
            have H9 : Hid ((wr.drew.alloc (.cells #[.int .i64 i, .int .u64 d, .int .i64 h, .bool bb] 57)).ownsRow w7.heap.size 57 4 (.slice lo (labP S i).length lc) (labP S i).length (labCs S (labP S i)) ∧ Below w7.heap.size w7 (wr.drew.alloc (.cells #[.int .i64 i, .int .u64 d, .int .i64 h, .bool bb] 57))) := ⟨lrow_below HO.out.1 hal, btr HO.out.2 hal⟩
            clear hal
            generalize hPi : labP S i = Pi at *
            go_upto_region 20 with fail
            go_region_held_law (fun w' => ((w'.cell? ⟨bx, 0, none⟩ = some (.slice (some ⟨db, 0, none⟩) v v) ∧ w'.cell? ⟨bx, 1, none⟩ = some (.slice (some ⟨kb, 0, none⟩) v v) ∧ w'.cell? ⟨bx, 3, none⟩ = some (.slice (some ⟨sb, 0, none⟩) v v)) ∧ (w'.cell? ⟨db, i, none⟩ = some (.int .u64 d) ∧ w'.cell? ⟨kb, i, none⟩ = some (.int .i64 h) ∧ w'.cell? ⟨sb, i, none⟩ = some (.bool bb))))
              (first | exact HKS.out _ Y3.out.2 | exact HKS.out _ H9.out.2 | exact HKS.out _ HO.out.2.drew | exact HKS.out _ HO.out.2)
              (first | (refine step_append_label rfl _ _ rfl w7.heap.size (.slice lo Pi.length lc) Pi.length (labCs S Pi) rfl H9.out.1 ⟨wr.heap.size, 0, none⟩ 1 (i : Int) d h bb rfl (four_cell' wr.drew (.int .i64 i) (.int .u64 d) (.int .i64 h) (.bool bb)) (by omega) H9.out.2.size ?_; intro v3 w3 hown3 hgr3; obtain ⟨po, pc, hv3⟩ := lrow_slice hown3; subst hv3; have Y3 : Hid (w3.ownsRow w7.heap.size 57 4 (.slice po (Pi.length + 1) pc) (Pi.length + 1) (labCs S Pi ++ [.int .i64 i, .int .u64 d, .int .i64 h, .bool bb]) ∧ Below w7.heap.size w7 w3) := ⟨hown3, lrow_grown H9.out.2 H9.out.1 hgr3 H9.out.2.size⟩; clear hown3 hgr3))
            all_goals
              go_wp2
              go_roundw
              case rel =>
                refine ⟨i + 1, po, pc, by omega, by go_num, ?_, ?_, Y3.out.2⟩
                · rw [HPN.out.1]
                  simp
                · rw [HPN.out.1, labCs_snoc, HPN.out.2, show (Pi ++ [(i : Int)]).length = Pi.length + 1 by simp]
                  exact Y3.out.1
              case measure => simp [intOf]; omega
        · obtain rfl : i = v := by omega
          have HAL : Hid (labP S i = labN S) := labP_all HS.out.2.2.lv
          rw [HAL.out] at HO ⊢
          obtain ⟨d0, d1, y0, y1⟩ := cell_two H8.out.1.res
          have ds := lt_of_get H8.out.1.res
          have d7 := lt_of_get H7.out.1.res
          go_wp2
          refine bodyPost_ret (v := .tuple #[.slice lo (labN S).length lc, .agg #[.int .i64 0, .slice none 0 0]]) (by simp [results, Tryd.results17, go_sem, d0, d1]) rfl ?_
          refine ⟨t, S, lo, lc, rfl, ⟨HS.out.1, HS.out.2.1⟩, ?_, (show Below w.heap.size w (lay2 wr (w.heap.size + 1) (.int .i64 0) (.slice none 0 0)) from lay2_below H8.out.1.below (by omega))⟩
          exact lrow_low (lrow_keep HO.out.1 fun k hk => lay2_far (by have := (HO.out.1.lt k hk).1; omega)) (by omega)
end Go.Proofs.YtnkfggccahohpaaDoor
