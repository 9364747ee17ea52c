/- The law HeapSorts: its first loop: what is put in. -/
import Derived.Test.YtkeniogcjhmikaaRows2
import Derived.Deep.DeepCutAuto
import Derived.BigRegion
namespace Go.Proofs.Ytkeniogcjhmikaa
open Go.RowKit

attribute [local go_sem] Oper.semAt_some

theorem info33 : (Try.prog.info? 33).map (fun i => (i.zero, i.size, i.bytes)) = some (some (.int .u64 0), 1, 8) := by kernel_rfl
theorem info4 : (Try.prog.info? 4).map (fun i => (i.zero, i.size, i.bytes)) = some (some (.bool false), 1, 1) := by kernel_rfl
theorem made_rows (z : Value) (n : Nat) : madeCells #[z] n = (List.replicate n z).toArray := by
  apply Array.ext'
  rw [toList_madeCells_one]
theorem two_rows {w0 w : World} {hb wb n : Nat} (h : IsHeap w hb wb n (.slice none 0 0) (fun _ => none)) (h1 : w0.heap.size ≤ hb) (h2 : w0.heap.size ≤ wb) (hbl : Below w0.heap.size w0 w) :
    SM w0 ((w.alloc (.cells (madeCells #[.int .u64 0] n) 33)).alloc (.cells (madeCells #[.bool false] n) 4)).drew hb wb w.heap.size (w.heap.size + 1) n (.slice none 0 0) (fun _ => none) (List.replicate n 0) (List.replicate n false) ∧
    SM w0 ((w.alloc (.cells (madeCells #[.bool false] n) 4)).alloc (.cells (madeCells #[.int .u64 0] n) 33)).drew hb wb (w.heap.size + 1) w.heap.size n (.slice none 0 0) (fun _ => none) (List.replicate n 0) (List.replicate n false) := by
  obtain ⟨l1, l2, _⟩ := h.lt
  have hs := hbl.size
  have two : ∀ o1 o2 : Obj, ((w.alloc o1).alloc o2).drew.heap[w.heap.size]? = some o1 ∧ ((w.alloc o1).alloc o2).drew.heap[w.heap.size + 1]? = some o2 ∧ Below w.heap.size w ((w.alloc o1).alloc o2).drew := fun o1 o2 => by
    refine ⟨(Below.heap_alloc _ _ _ (by simp)).trans (heap_new _ _), ?_, (((Below.refl _ w).alloc (Nat.le_refl _) _).alloc (by simp) _).drew⟩
    have h := heap_new (w.alloc o1) o2
    rw [show (w.alloc o1).heap.size = w.heap.size + 1 by simp] at h
    exact h
  constructor
  · obtain ⟨a, b, c⟩ := two (.cells (madeCells #[.int .u64 0] n) 33) (.cells (madeCells #[.bool false] n) 4)
    exact ⟨h.below c, by rw [a, made_rows]; simp, by rw [b, made_rows]; simp, by simp, by simp, ⟨by omega, by omega, fun e => by cases e⟩, ⟨by omega, by omega, fun e => by cases e⟩, by omega, ⟨h1, h2, by omega, by omega, fun k e => by cases e⟩, hbl.trans (c.mono hs)⟩
  · obtain ⟨a, b, c⟩ := two (.cells (madeCells #[.bool false] n) 4) (.cells (madeCells #[.int .u64 0] n) 33)
    exact ⟨h.below c, by rw [b, made_rows]; simp, by rw [a, made_rows]; simp, by simp, by simp, ⟨by omega, by omega, fun e => by cases e⟩, ⟨by omega, by omega, fun e => by cases e⟩, by omega, ⟨h1, h2, by omega, by omega, fun k e => by cases e⟩, hbl.trans (c.mono hs)⟩

theorem Least.only {n : Nat} {f : Int → Option Int} {d d' : Nat} {k k' : Int} (h : Least n f d k) (h' : Least n f d' k') : d' = d ∧ k' = k := by
  have h1 := h.2.2 d' k' h'.1 h'.2.1
  have h2 := h'.2.2 d k h.1 h.2.1
  unfold ltT at h1 h2
  simp only at h1 h2
  omega
theorem Least.next {n : Nat} {f : Int → Option Int} {d : Nat} {k : Int} (h : Least n f d k) : ∀ e : Nat, e < n → ∀ j, upd f d none e = some j → ltT (k, (d : Int)) (j, (e : Int)) := by
  intro e he j hj
  by_cases hed : e = d
  · subst hed; rw [upd_at] at hj; cases hj
  · rw [upd_off _ _ (by omega)] at hj
    have h1 := h.2.2 e j he hj
    unfold ltT at h1 ⊢
    simp only at h1 ⊢
    omega

set_option maxRecDepth 100000 in
set_option maxHeartbeats 8000000 in
theorem sorts_calls (ko io : Option Addr) (kc ic : Nat) (ks is : List Int) (w : World) (hk : HasNums (Value.int .u64) w (.slice ko ks.length kc) ks) (hi : HasNums (Value.int .u32) w (.slice io is.length ic) is) (hr : ∀ x ∈ is, 0 ≤ x ∧ x < 4294967296) (hmi : is.length ≤ maxLen) :
    Calls Try.prog 3 #[.slice ko ks.length kc, .slice io is.length ic] w fun e w' => e = .returned (.bool true) ∧ Below w.heap.size w w' := by
  unfold maxLen at hmi
  have HAW : Hid (type_of% (awake_calls w)) := awake_calls w
  have HK : Hid (HasNums (Value.int .u64) w (.slice ko ks.length kc) ks) := hk
  have HI : Hid (HasNums (Value.int .u32) w (.slice io is.length ic) is) := hi
  have HR : Hid (∀ x ∈ is, 0 ≤ x ∧ x < 4294967296) := hr
  clear hk hi hr
  by_cases hbig : (3000 : Int) < (is.length : Int)
  · go_enter Try.func3, Try.ntmps3
    go_wp2_with fail
    refine HAW.out.mono ?_
    rintro e w1 ⟨rfl, hb1⟩
    have HB1 : Hid (Below w.heap.size w w1) := hb1
    clear hb1
    go_wp2
    go_ret
    exact ⟨rfl, HB1.out⟩
  by_cases hfew : (ks.length : Int) < (is.length : Int)
  · go_enter Try.func3, Try.ntmps3
    go_wp2_with fail
    refine HAW.out.mono ?_
    rintro e w1 ⟨rfl, hb1⟩
    have HB1 : Hid (Below w.heap.size w w1) := hb1
    clear hb1
    go_wp2
    go_ret
    exact ⟨rfl, HB1.out⟩
  have hn : is.length ≤ 3000 := by omega
  have hnk : is.length ≤ ks.length := by omega
  have HNW : Hid (∀ wx, Calls Try.prog 5 #[.int .i64 (is.length : Nat)] wx fun e w' => e = .returned (.tuple #[.pointer (some ⟨wx.heap.size + 1, 0, none⟩), .nilIface]) ∧ IsHeap w' (wx.heap.size + 1) wx.heap.size is.length (.slice none 0 0) (fun _ => none) ∧ Below wx.heap.size wx w') := fun wx => new_calls is.length (by omega) wx
  have m1 := run_make_row' (P := Try.prog) 22 33 (.int .u64 0) 8 Try.underlying22 info33 rfl .i64 .i64 is.length (by omega) (by omega)
  have m2 := run_make_row' (P := Try.prog) 30 4 (.bool false) 1 Try.underlying30 info4 rfl .i64 .i64 is.length (by omega) (by omega)
  go_enter Try.func3, Try.ntmps3
  go_wp2_with fail
  refine HAW.out.mono ?_
  rintro e w1 ⟨rfl, hb1⟩
  have HB1 : Hid (Below w.heap.size w w1) := hb1
  clear hb1
  go_wp2_with fail
  refine (HNW.out _).mono ?_
  rintro e w2 ⟨rfl, hI2, hb2⟩
  obtain ⟨wb, hwb⟩ : ∃ wb, w1.heap.size = wb := ⟨_, rfl⟩
  rw [hwb] at hI2
  rw [hwb]
  have HTW : Hid (_ ∧ _) := two_rows (w0 := w) hI2 (by have := HB1.out.size; omega) (by have := HB1.out.size; omega) (HB1.out.trans (hb2.mono HB1.out.size))
  clear hI2 hb2 hwb
  go_upto_region 9 with fail
  go_cut [8, 9] (fun l i wx => ∃ lb ib, l = .slice (some ⟨lb, 0, none⟩) is.length is.length ∧ i = .slice (some ⟨ib, 0, none⟩) is.length is.length ∧ SM w wx (wb + 1) wb lb ib is.length (.slice none 0 0) (fun _ => none) (List.replicate is.length 0) (List.replicate is.length false))
  case first =>
    go_region_held3 (fun _ => True) (trivial) (first | fail)
    all_goals (go_wp2_with fail; go_meet; refine ⟨_, _, rfl, rfl, ?_⟩)
    · exact HTW.out.1
    · exact HTW.out.2
  case rest =>
    obtain ⟨lb, ib, hl, hi', hS⟩ := hcut
    subst hl
    subst hi'
    have HS : Hid (SM w wc (wb + 1) wb lb ib is.length (.slice none 0 0) (fun _ => none) (List.replicate is.length 0) (List.replicate is.length false)) := hS
    clear hS m1 m2 HTW
    generalize wc = w3 at *
    go_wp2_with fail
    go_loopw [10, 50] (fun cv iv wr => ∃ (k : Nat) (sv : Value) (f : Int → Option Int) (ls : List Int) (bs : List Bool), k ≤ is.length ∧ iv = .int .i64 k ∧ cv = .int .i64 (cnt bs : Nat) ∧ SM w wr (wb + 1) wb lb ib is.length sv f ls bs ∧ Rel is.length f ls bs) (fun _ iv _ => is.length - (intOf iv).toNat)
    case atStart => exact ⟨0, _, _, _, _, Nat.zero_le _, rfl, by rw [cnt_none]; rfl, HS.out, Rel.new _ _⟩
    case round =>
      obtain ⟨k, sv, f, ls, bs, hk, rfl, rfl, hS, hR⟩ := hrel
      have HS1 : Hid (SM w wr (wb + 1) wb lb ib is.length sv f ls bs) := hS
      have HRL : Hid (Rel is.length f ls bs) := hR
      have hcl := cnt_le bs
      have hil := hS.il
      have hll := hS.ll
      by_cases hlt : k < is.length
      · obtain ⟨q, hq⟩ : ∃ q, is[k]? = some q := ⟨is[k], List.getElem?_eq_getElem hlt⟩
        obtain ⟨κ, hκ⟩ : ∃ κ, ks[k]? = some κ := ⟨ks[k]'(by omega), List.getElem?_eq_getElem _⟩
        obtain ⟨hq0, hq1⟩ := HR.out q (List.mem_of_getElem? hq)
        obtain ⟨bi, oi, hio, hbil, r0⟩ := HI.out.at hq
        obtain ⟨bk, ok, hko, hbkl, r1⟩ := HK.out.at hκ
        subst hio
        subst hko
        have hem := Int.emod_nonneg q (show (is.length : Int) ≠ 0 by omega)
        have hem2 := Int.emod_lt_of_pos q (show (0 : Int) < (is.length : Int) by omega)
        obtain ⟨d, hd⟩ : ∃ d : Nat, q % (is.length : Int) = (d : Int) := ⟨(q % (is.length : Int)).toNat, by omega⟩
        have hdn : d < is.length := by omega
        obtain ⟨b, hb⟩ : ∃ b, bs[d]? = some b := ⟨bs[d]'(by omega), List.getElem?_eq_getElem _⟩
        obtain ⟨l0, hl0⟩ : ∃ l0, ls[d]? = some l0 := ⟨ls[d]'(by omega), List.getElem?_eq_getElem _⟩
        obtain ⟨m, hm, HPS⟩ : ∃ m : Int, ((b = false ∧ m = κ) ∨ (b = true ∧ m = if l0 < κ then l0 else κ)) ∧ Hid (Calls Try.prog 6 #[.pointer (some ⟨wb + 1, 0, none⟩), .int .u32 (d : Int), .int .u64 κ] wr fun e w' => e = .returned .nilIface ∧ ∃ sv', SM w w' (wb + 1) wb lb ib is.length sv' (upd f d (some m)) ls bs) := by
          cases b with
          | false =>
            refine ⟨κ, Or.inl ⟨rfl, rfl⟩, (push_out hS.heap d hdn κ ((hR d hdn).2 hb)).mono ?_⟩
            rintro e w' ⟨he, sv', h1, h2⟩
            exact ⟨he, sv', hS.op h1 h2⟩
          | true =>
            obtain ⟨k', e1, e2⟩ := (hR d hdn).1 hb
            rw [hl0] at e1
            cases e1
            refine ⟨_, Or.inr ⟨rfl, rfl⟩, (push_in hS.heap d hdn κ l0 e2).mono ?_⟩
            rintro e w' ⟨he, sv', h1, h2⟩
            exact ⟨he, sv', hS.op h1 h2⟩
        have a0 := (hS.below.cell (p := ⟨bi, oi + k, none⟩) hbil).trans r0
        have a1 := (hS.below.cell (p := ⟨bk, ok + k, none⟩) hbkl).trans r1
        have HBK : Hid (∀ wx, Below w.heap.size w wx → wx.cell? ⟨bk, ok + k, none⟩ = some (.int .u64 κ)) := fun wx h => (h.cell (p := ⟨bk, ok + k, none⟩) hbkl).trans r1
        have hbase := hS.base
        have hli := hS.li
        have HL0 : Hid (ls[d]? = some l0) := hl0
        have HBD : Hid (bs[d]? = some b) := hb
        have u1 : IntKind.u32.wrap (is.length : Int) = is.length := by rw [IntKind.wrap_u32]; omega
        have hne0 : ((is.length : Int) == 0) = false := by
          have : (is.length : Int) ≠ 0 := by omega
          simpa using this
        have b0 : (0 : Int) ≤ (d : Int) := by omega
        have b1 : (d : Int) < (is.length : Int) := by omega
        have b2 : (0 : Int) ≤ (k : Int) := by omega
        have b3 : (k : Int) < (is.length : Int) := by omega
        have b4 : (k : Int) < (ks.length : Int) := by omega
        have b5 : (cnt bs : Int) ≤ 3000 := by omega
        clear hS hR hq hκ r0 r1 hb hl0 hem hem2 hil hll
        go_wp2_with fail
        refine HPS.out.mono ?_
        rintro e w4 ⟨rfl, sv', hS4⟩
        obtain ⟨i0, i1⟩ := hS4.icell HBD.out
        obtain ⟨j0, j1⟩ := hS4.lcell HL0.out
        have l1 : lb < w4.heap.size := lt_of_get hS4.lrow
        have l2 : ib < w4.heap.size := lt_of_get hS4.irow
        have HS4 : Hid (SM w w4 (wb + 1) wb lb ib is.length sv' (upd f d (some m)) ls bs) := hS4
        have n1 : bk ≠ lb := by omega
        have n2 : lb ≠ bk := by omega
        have n3 : bk ≠ ib := by omega
        have n4 : ib ≠ bk := by omega
        have n5 : ib ≠ lb := Ne.symm hli
        have c1 := HBK.out w4 hS4.below
        clear hS4 a0 a1
        rcases hm with ⟨rfl, rfl⟩ | ⟨rfl, hm⟩
        · obtain ⟨W5, hW5⟩ : ∃ W5, (w4.setCell ⟨lb, d, none⟩ (.int .u64 m)).setCell ⟨ib, d, none⟩ (.bool true) = W5 := ⟨_, rfl⟩
          have hS5 : SM w W5 (wb + 1) wb lb ib is.length sv' (upd f d (some m)) (ls.set d m) (bs.set d true) := by rw [← hW5]; exact (HS4.out.putL d m).putI d true
          obtain ⟨j2, j3⟩ := hS5.lcell (d := d) (k := m) (set_same _ (by rw [HS4.out.ll]; exact hdn))
          have c2 := HBK.out W5 hS5.below
          have HS5 : Hid (SM w W5 (wb + 1) wb lb ib is.length sv' (upd f d (some m)) (ls.set d m) (bs.set d true)) := hS5
          have HW5 : Hid ((w4.setCell ⟨lb, d, none⟩ (.int .u64 m)).setCell ⟨ib, d, none⟩ (.bool true) = W5) := hW5
          have hmm : ¬ m < m := by omega
          clear hS5 hW5
          go_upto_region 21 with fail
          rw [HW5.out]
          clear i0 i1 j0 j1 c1
          go_region
          go_wp2
          go_roundw
          case rel => exact ⟨k + 1, sv', _, _, _, by omega, by go_num, by rw [cnt_add _ _ HBD.out]; go_num, (HS5.out.putL d m).drew, by rw [List.set_set]; exact HRL.out.put HS4.out.ll HS4.out.il hdn m⟩
          case measure => simp [intOf]; omega
        · obtain ⟨W5, hW5⟩ : ∃ W5, w4.setCell ⟨ib, d, none⟩ (.bool true) = W5 := ⟨_, rfl⟩
          have hS5 : SM w W5 (wb + 1) wb lb ib is.length sv' (upd f d (some m)) ls (bs.set d true) := by rw [← hW5]; exact HS4.out.putI d true
          obtain ⟨j2, j3⟩ := hS5.lcell (d := d) (k := l0) HL0.out
          have c2 := HBK.out W5 hS5.below
          have HS5 : Hid (SM w W5 (wb + 1) wb lb ib is.length sv' (upd f d (some m)) ls (bs.set d true)) := hS5
          have HW5 : Hid (w4.setCell ⟨ib, d, none⟩ (.bool true) = W5) := hW5
          have HMM : Hid (m = if l0 < κ then l0 else κ) := hm
          clear hS5 hW5 hm
          go_upto_region 21 with fail
          rw [HW5.out]
          clear i0 i1 j0 j1 c1
          by_cases hmin : κ < l0
          · have HM2 : Hid (m = κ) := by show _ = _; rw [HMM.out, if_neg (by omega)]
            go_region
            go_wp2
            go_roundw
            case rel => exact ⟨k + 1, sv', _, _, _, by omega, by go_num, by rw [cnt_same _ _ HBD.out], (HS5.out.putL d κ).drew, by rw [← HM2.out]; exact HRL.out.put HS4.out.ll HS4.out.il hdn m⟩
            case measure => simp [intOf]; omega
          · have HM2 : Hid (m = l0) := by
              show _ = _
              rw [HMM.out]
              split <;> omega
            go_region
            go_wp2
            go_roundw
            case rel => exact ⟨k + 1, sv', _, _, _, by omega, by go_num, by rw [cnt_same _ _ HBD.out], (HS5.out.putL d l0).drew, by rw [← HM2.out]; exact HRL.out.put HS4.out.ll HS4.out.il hdn m⟩
            case measure => simp [intOf]; omega
      · obtain rfl : k = is.length := by omega
        clear hS hR hcl hil hll
        generalize wr = wo at *
        obtain ⟨c, hc⟩ : ∃ c, cnt bs = c := ⟨_, rfl⟩
        have HC : Hid (cnt bs = c) := hc
        have hcn : c ≤ 3000 := by have h1 := cnt_le bs; have h2 := HS1.out.il; omega
        rw [hc]
        clear hc
        go_wp2_with fail
        go_loopw [13, 14, 98] (fun lv kv iv wx => ∃ (j : Nat) (sv : Value) (f : Int → Option Int) (bs' : List Bool) (la lk : Int), j + cnt bs' = c ∧ iv = .int .i64 j ∧ lv = .int .u32 la ∧ kv = .int .u64 lk ∧ SM w wx (wb + 1) wb lb ib is.length sv f ls bs' ∧ Rel is.length f ls bs' ∧ (0 < j → ∀ e : Nat, e < is.length → ∀ q, f e = some q → ltT (lk, la) (q, (e : Int)))) (fun _ _ iv _ => c - (intOf iv).toNat)
        case atStart => exact ⟨0, sv, f, bs, 0, 0, by rw [HC.out]; omega, rfl, rfl, rfl, HS1.out, HRL.out, fun h => by omega⟩
        case round =>
          obtain ⟨j, sv2, f2, bs2, la, lk, hj, rfl, rfl, rfl, hS, hR, hO⟩ := hrel
          have HS2 : Hid (SM w wr (wb + 1) wb lb ib is.length sv2 f2 ls bs2) := hS
          have HR2 : Hid (Rel is.length f2 ls bs2) := hR
          by_cases hlt2 : j < c
          · obtain ⟨d0, hd0⟩ := cnt_pos bs2 (by omega)
            have hd0n : d0 < is.length := by have h1 := (List.getElem?_eq_some_iff.1 hd0).1; have h2 := hS.il; omega
            have hf0 : f2 d0 ≠ none := by
              obtain ⟨q, _, hq⟩ := (hR d0 hd0n).1 hd0
              rw [hq]
              simp
            have HTP : Hid (type_of% (top_some hS.heap d0 hd0n hf0)) := top_some hS.heap d0 hd0n hf0
            have HPP : Hid (∀ wx, Below wr.heap.size wr wx → Calls Try.prog 8 #[.pointer (some ⟨wb + 1, 0, none⟩)] wx fun e w' => ∃ (d : Nat) (k : Int), e = .returned (.tuple #[.int .u32 d, .int .u64 k, .bool true]) ∧ Least is.length f2 d k ∧ ∃ sv', SM w w' (wb + 1) wb lb ib is.length sv' (upd f2 d none) ls bs2) := fun wx hb => by
              have hSx := HS2.out.later hb
              refine (pop_some hSx.heap d0 hd0n hf0).mono ?_
              rintro e w' ⟨d, k, he, hl, sv', h1, h2⟩
              exact ⟨d, k, he, hl, sv', hSx.op h1 h2⟩
            have HJ : Hid (j + cnt bs2 = c) := hj
            have HO : Hid (0 < j → ∀ e : Nat, e < is.length → ∀ q, f2 e = some q → ltT (lk, la) (q, (e : Int))) := hO
            have g1 : (j : Int) < (c : Int) := by omega
            clear hS hR hO hj hd0 hf0
            go_wp2_with fail
            refine HTP.out.mono ?_
            rintro e w5 ⟨d, x, rfl, hL, hb5⟩
            have HL : Hid (Least is.length f2 d x) := hL
            have HP5 : Hid (type_of% (HPP.out w5 hb5)) := HPP.out w5 hb5
            clear hL hb5
            go_wp2_with fail
            refine HP5.out.mono ?_
            rintro e w6 ⟨d', x', rfl, hL', sv3, hS6⟩
            obtain ⟨rfl, rfl⟩ := HL.out.only hL'
            have hdn := HL.out.1
            have hIN : bs2[d']? = some true := by
              obtain ⟨b, hb⟩ : ∃ b, bs2[d']? = some b := ⟨bs2[d']'(by rw [hS6.il]; exact hdn), List.getElem?_eq_getElem _⟩
              cases b with
              | true => exact hb
              | false => have h1 := (HR2.out d' hdn).2 hb; rw [HL.out.2.1] at h1; cases h1
            have hLS : ls[d']? = some x' := by
              obtain ⟨q, h1, h2⟩ := (HR2.out d' hdn).1 hIN
              rw [HL.out.2.1] at h2
              cases h2
              exact h1
            obtain ⟨i0, i1⟩ := hS6.icell hIN
            obtain ⟨j0, j1⟩ := hS6.lcell hLS
            have l2 : ib < w6.heap.size := lt_of_get hS6.irow
            have HS6 : Hid (SM w w6 (wb + 1) wb lb ib is.length sv3 (upd f2 d' none) ls bs2) := hS6
            have HIN : Hid (bs2[d']? = some true) := hIN
            have u1 : IntKind.u32.wrap (is.length : Int) = is.length := by rw [IntKind.wrap_u32]; omega
            have b0 : (0 : Int) ≤ (d' : Int) := by omega
            have b1 : (d' : Int) < (is.length : Int) := by omega
            have b2 : ¬ (is.length : Int) ≤ (d' : Int) := by omega
            clear hS6 hIN hLS hL'
            by_cases hj0 : j = 0
            · subst hj0
              go_wp2
              go_roundw
              case rel => exact ⟨1, sv3, _, _, _, _, by have h1 := HJ.out; have h2 := cnt_sub _ _ HIN.out; omega, by go_num, rfl, rfl, HS6.out.putI d' false, HR2.out.out HS2.out.il hdn, fun _ => HL.out.next⟩
              case measure => simp [intOf]; omega
            · have hlo := HO.out (by omega) d' hdn x' HL.out.2.1
              have b3 : (0 : Int) < (j : Int) := by omega
              rcases hlo with hlo | ⟨hlo, hlo2⟩
              · simp only at hlo
                have b4 : ¬ x' < lk := by omega
                have b5 : (x' == lk) = false := by
                  have : x' ≠ lk := by omega
                  simpa using this
                go_wp2
                go_roundw
                case rel => exact ⟨j + 1, sv3, _, _, _, _, by have h1 := HJ.out; have h2 := cnt_sub _ _ HIN.out; omega, by go_num, rfl, rfl, HS6.out.putI d' false, HR2.out.out HS2.out.il hdn, fun _ => HL.out.next⟩
                case measure => simp [intOf]; omega
              · simp only at hlo hlo2
                subst hlo
                have b4 : ¬ lk < lk := by omega
                have b5 : ¬ (d' : Int) ≤ la := by omega
                go_wp2
                go_roundw
                case rel => exact ⟨j + 1, sv3, _, _, _, _, by have h1 := HJ.out; have h2 := cnt_sub _ _ HIN.out; omega, by go_num, rfl, rfl, HS6.out.putI d' false, HR2.out.out HS2.out.il hdn, fun _ => HL.out.next⟩
                case measure => simp [intOf]; omega
          · obtain rfl : j = c := by omega
            have hz : ∀ d : Nat, d < is.length → f2 d = none := fun d hd => by
              obtain ⟨b, hb⟩ : ∃ b, bs2[d]? = some b := ⟨bs2[d]'(by rw [hS.il]; exact hd), List.getElem?_eq_getElem _⟩
              cases b with
              | true => exact absurd hb (cnt_zero bs2 d (by omega))
              | false => exact (hR d hd).2 hb
            have HPN : Hid (type_of% (pop_none hS.heap hz)) := pop_none hS.heap hz
            have HLN : Hid (type_of% (len_none hS.heap hz)) := len_none hS.heap hz
            clear hS hR hO hz hj
            go_wp2_with fail
            refine HPN.out.mono ?_
            rintro e w5 ⟨rfl, hw5⟩
            subst hw5
            go_wp2_with fail
            refine HLN.out.mono ?_
            rintro e w6 ⟨rfl, hw6⟩
            subst hw6
            go_wp2
            go_ret
            exact ⟨rfl, HS2.out.below⟩
end Go.Proofs.Ytkeniogcjhmikaa
