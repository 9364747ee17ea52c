/- the reference's blank and words, walked. (genpw.py) -/
import Derived.Test.YtghbekpilhnkfaaDoorGtO
namespace Go.Proofs.YtghbekpilhnkfaaDoor.Gt
open Go Go.Lib Go.RowKit Go.Extern Hi

attribute [local go_sem] Oper.semAt_some

set_option maxRecDepth 100000 in
theorem blank_calls (x : UInt8) (w : World) : Calls Tryd.prog 63 #[.int .u8 (x.toNat : Int)] w fun e w' => e = .returned (.bool (gap x)) ∧ w' = w := by
  rw [← gapR_byte]
  obtain ⟨n, hn⟩ : ∃ n, x.toNat = n := ⟨_, rfl⟩
  rw [hn]
  clear hn x
  unfold gapR
  by_cases h1 : n = 32
  · subst h1
    go_enter Tryd.func63, Tryd.ntmps63
    go_wp2
    go_ret
    exact ⟨rfl, rfl⟩
  · have d1 : ((n : Int) == 32) = false := beq_eq_false_iff_ne.2 (by omega)
    have n1 : (n == 32) = false := beq_eq_false_iff_ne.2 h1
    by_cases h2 : n = 9
    · subst h2
      go_enter Tryd.func63, Tryd.ntmps63
      go_wp2
      go_ret
      exact ⟨rfl, rfl⟩
    · have d2 : ((n : Int) == 9) = false := beq_eq_false_iff_ne.2 (by omega)
      have n2 : (n == 9) = false := beq_eq_false_iff_ne.2 h2
      by_cases h3 : n = 13
      · subst h3
        go_enter Tryd.func63, Tryd.ntmps63
        go_wp2
        go_ret
        exact ⟨rfl, rfl⟩
      · have d3 : ((n : Int) == 13) = false := beq_eq_false_iff_ne.2 (by omega)
        have n3 : (n == 13) = false := beq_eq_false_iff_ne.2 h3
        have HN : Hid ((n == 32 || n == 9 || n == 13) = false) := by show _ = _; rw [n1, n2, n3]; rfl
        clear n1 n2 n3
        go_enter Tryd.func63, Tryd.ntmps63
        go_wp2
        go_ret
        exact ⟨by rw [HN.out]; rfl, rfl⟩
theorem infoStr : (Tryd.prog.info? 9).map (fun i => (i.zero, i.size, i.bytes)) = some (some (.string ⟨#[]⟩), 1, 16) := by kernel_rfl
theorem bs_append (a b : ByteArray) : bs (a ++ b) = bs a ++ bs b := by
  show (a ++ b).data.toList = _
  rw [ByteArray.data_append, Array.toList_append]
  rfl
theorem str_more {w y w5 : World} {v v5 : Value} {X : List ByteArray} {c : ByteArray} (h : y.ownsRow w.heap.size 9 1 v X.length (X.map Value.string)) (hb : Below w.heap.size w y) (ho : w5.ownsRow w.heap.size 9 1 v5 (X.length + 1) (X.map Value.string ++ [.string c])) (hg : (y.alloc (.cells #[.string c] 9)).grownBy w5 v.ownBlock) :
    w5.ownsRow w.heap.size 9 1 v5 (X ++ [c]).length ((X ++ [c]).map Value.string) ∧ Below w.heap.size w w5 := by
  refine ⟨by rw [List.map_append, List.length_append]; exact ho, ?_⟩
  have hb2 : Below w.heap.size w (y.alloc (.cells #[.string c] 9)) := hb.alloc hb.size _
  exact ⟨hg.os.trans hb2.os, hg.tape.trans hb2.tape, hg.output.trans hb2.output, Nat.le_trans hb2.size hg.size, fun k hk => (hg.block k (Nat.lt_of_lt_of_le hk hb2.size) (fun e => by have := (h.lt k e.symm).1; omega)).trans (hb2.block k hk)⟩
theorem empty_of {t : ByteArray} (h0 : ¬ 0 < t.size) : t = ⟨#[]⟩ := by
  cases t with
  | mk d =>
    have h1 : ¬ 0 < d.size := h0
    have h2 : d.size = 0 := by omega
    rw [Array.eq_empty_of_size_eq_zero h2]
theorem drop_at {l : By} {k : Nat} {b : UInt8} (h : l[k]? = some b) : l.drop k = b :: l.drop (k + 1) := by
  obtain ⟨h1, h2⟩ := List.getElem?_eq_some_iff.1 h
  rw [← h2]
  exact List.drop_eq_getElem_cons h1
theorem hash_step {l : By} {k : Nat} {b : UInt8} (h : l[k]? = some b) (hb : b ≠ 35) : hashOf (l.drop k) = b :: hashOf (l.drop (k + 1)) := by
  rw [drop_at h]
  unfold hashOf
  rw [List.takeWhile_cons, if_pos (by simpa using hb)]
theorem hash_stop {l : By} {k : Nat} (h : l[k]? = some 35) : hashOf (l.drop k) = [] := by
  rw [drop_at h]
  rfl
theorem extract_one (s : ByteArray) (k : Nat) (x : UInt8) (h : (bs s)[k]? = some x) : bs (s.extract k (k + 1)) = [x] := by
  rw [bs_extract, drop_at h, show k + 1 - k = 1 by omega]
  rfl
/-- what words answers. -/
def WrA (t : By) (w : World) (e : Ending) (w' : World) : Prop := ∃ (lo : Option Addr) (lc : Nat) (X : List ByteArray), e = .returned (.tuple #[.slice lo X.length lc, .bool (rightL t)]) ∧ X.map bs = wordsOf t ∧ w'.ownsRow w.heap.size 9 1 (.slice lo X.length lc) X.length (X.map Value.string) ∧ Below w.heap.size w w'

set_option maxRecDepth 100000 in
set_option maxHeartbeats 4000000 in
theorem rwords_calls (s : ByteArray) (w : World) (hs : s.size ≤ 1048576) : Calls Tryd.prog 48 #[.string s] w (WrA (bs s) w) := by
  obtain ⟨i0, hi9, hzz⟩ := Option.map_eq_some_iff.1 infoStr
  simp only [Prod.mk.injEq] at hzz
  have HI0 : Hid (Tryd.prog.info? 9 = some i0 ∧ i0.zero = some (.string ⟨#[]⟩) ∧ i0.size = 1 ∧ i0.bytes = 16) := ⟨hi9, hzz⟩
  have HSZ : Hid ((bs s).length = s.size) := bs_len s
  clear hi9 hzz
  go_enter Tryd.func48, Tryd.ntmps48
  go_wp2_with fail
  go_loopw [4, 5, 6, 7] (fun lv rv cv iv wr => ∃ (k : Nat) (X : List ByteArray) (c : ByteArray) (rt : Bool) (lo : Option Addr) (lc : Nat), k ≤ s.size ∧ iv = .int .i64 k ∧ lv = .slice lo X.length lc ∧ rv = .bool rt ∧ cv = .string c ∧ X.length ≤ k ∧ c.size ≤ k ∧ Hid (wr.ownsRow w.heap.size 9 1 (.slice lo X.length lc) X.length (X.map Value.string) ∧ Below w.heap.size w wr) ∧ Hid (wordsOf (bs s) = X.map bs ++ wordsF (bs c) (hashOf ((bs s).drop k)) ∧ rightL (bs s) = (rt && (hashOf ((bs s).drop k)).all fun b => gap b || okB b))) (fun _ _ _ iv _ => s.size - (intOf iv).toNat)
  case atStart => exact ⟨0, [], ⟨#[]⟩, true, none, 0, Nat.zero_le _, rfl, rfl, rfl, rfl, Nat.zero_le _, Nat.zero_le _, ⟨World.ownsRow_nil _ _ _ _, Below.refl _ _⟩, ⟨rfl, rfl⟩⟩
  case round =>
    obtain ⟨k, X, c, rt, lo, lc, hk, rfl, rfl, rfl, rfl, hXk, hck, HO, HW⟩ := hrel
    rcases Nat.lt_or_eq_of_le hk with h1 | h1
    · have hb := bs_at s k h1
      obtain ⟨x, hx⟩ : ∃ x, s[k]'h1 = x := ⟨_, rfl⟩
      rw [hx] at hb
      have HB : Hid ((bs s)[k]? = some x) := hb
      clear hb
      have i1 : (0 : Int) ≤ (k : Int) := by omega
      have i2 : (k : Int) < (s.size : Int) := by omega
      have i3 : decide ((k : Int) < (s.size : Int)) = true := by simp; omega
      by_cases hx5 : x = 35
      · have HTL : Hid (hashOf ((bs s).drop k) = []) := hash_stop (hx5 ▸ HB.out)
        subst hx5
        have HL : Hid (wordsOf (bs s) = X.map bs ++ (if bs c = [] then [] else [bs c]) ∧ rightL (bs s) = rt) := by
          obtain ⟨a1, a2⟩ := HW.out
          rw [HTL.out] at a1 a2
          exact ⟨a1, by rw [a2]; simp⟩
        clear HW HTL
        by_cases h0 : 0 < c.size
        · have f1 : c.toList.isEmpty = false := nonempty_of h0
          have f2 : ¬ c.toList = [] := fun e => by rw [e] at f1; cases f1
          have HNE : Hid (bs c ≠ []) := fun e => by have := bs_len c; rw [e] at this; simp at this; omega
          go_wp2_with (at_builtin; refine wpList_append_own _ rfl _ _ 45 rfl w.heap.size 9 i0 (.string ⟨#[]⟩) 1 16 Tryd.underlying45 HI0.out.1 HI0.out.2.1 HI0.out.2.2.1 HI0.out.2.2.2 rfl (by decide) _ X.length (X.map Value.string) rfl (sown_keep HO.out.1 ((Below.refl _ wr).alloc (Nat.le_refl _) _)) ⟨wr.heap.size, 0, none⟩ 1 1 [.string c] rfl rfl (new_cellsG wr [.string c] 9) (by simp [Value.oneCell']) (by unfold maxLen; omega) (by omega) (by have := HO.out.2.size; simp; omega) ?_; intro v5 w5 hown5 hgr5 _; have H5 : Hid (w5.ownsRow w.heap.size 9 1 v5 (X ++ [c]).length ((X ++ [c]).map Value.string) ∧ Below w.heap.size w w5) := str_more HO.out.1 HO.out.2 hown5 hgr5; clear hown5 hgr5; obtain ⟨po, pc, hv5⟩ := slice_ofG H5.out.1; subst hv5)
          go_ret2
          refine ⟨po, pc, X ++ [c], by rw [HL.out.2, List.length_append]; rfl, by rw [List.map_append, HL.out.1, if_neg HNE.out]; rfl, H5.out.1, H5.out.2⟩
        · have e0 := empty_of h0
          subst e0
          go_wp2
          go_ret2
          refine ⟨lo, lc, X, by rw [HL.out.2]; rfl, by rw [HL.out.1, if_pos (show bs ⟨#[]⟩ = [] from rfl), List.append_nil], HO.out.1, HO.out.2⟩
      · have d1 : ((x.toNat : Int) != 35) = true := bne_iff_ne.2 (fun q => hx5 (UInt8.toNat_inj.1 (by show x.toNat = 35; omega)))
        have HST : Hid (hashOf ((bs s).drop k) = x :: hashOf ((bs s).drop (k + 1))) := hash_step HB.out hx5
        have HBL : Hid (Calls Tryd.prog 63 #[.int .u8 (x.toNat : Int)] wr fun e w' => e = .returned (.bool (gap x)) ∧ w' = wr) := blank_calls x wr
        clear hx5
        go_wp2_with fail
        refine HBL.out.mono ?_
        rintro e w' ⟨rfl, rfl⟩
        by_cases hg : gap x = true
        · rw [hg]
          have HW2 : Hid (wordsOf (bs s) = (X.map bs ++ (if bs c = [] then [] else [bs c])) ++ wordsF [] (hashOf ((bs s).drop (k + 1))) ∧ rightL (bs s) = (rt && (hashOf ((bs s).drop (k + 1))).all fun b => gap b || okB b)) := by
            obtain ⟨a1, a2⟩ := HW.out
            rw [HST.out] at a1 a2
            refine ⟨?_, by rw [a2, List.all_cons, hg]; simp⟩
            rw [a1, wordsF, if_pos hg]
            split <;> simp
          clear hg HW HST d1 HBL
          by_cases h0 : 0 < c.size
          · have f1 : c.toList.isEmpty = false := nonempty_of h0
            have f2 : ¬ c.toList = [] := fun e => by rw [e] at f1; cases f1
            have HNE : Hid (bs c ≠ []) := fun e => by have := bs_len c; rw [e] at this; simp at this; omega
            go_wp2_with (at_builtin; refine wpList_append_own _ rfl _ _ 45 rfl w.heap.size 9 i0 (.string ⟨#[]⟩) 1 16 Tryd.underlying45 HI0.out.1 HI0.out.2.1 HI0.out.2.2.1 HI0.out.2.2.2 rfl (by decide) _ X.length (X.map Value.string) rfl (sown_keep HO.out.1 ((Below.refl _ w').alloc (Nat.le_refl _) _)) ⟨w'.heap.size, 0, none⟩ 1 1 [.string c] rfl rfl (new_cellsG w' [.string c] 9) (by simp [Value.oneCell']) (by unfold maxLen; omega) (by omega) (by have := HO.out.2.size; simp; omega) ?_; intro v5 w5 hown5 hgr5 _; have H5 : Hid (w5.ownsRow w.heap.size 9 1 v5 (X ++ [c]).length ((X ++ [c]).map Value.string) ∧ Below w.heap.size w w5) := str_more HO.out.1 HO.out.2 hown5 hgr5; clear hown5 hgr5; obtain ⟨po, pc, hv5⟩ := slice_ofG H5.out.1; subst hv5)
            go_roundw
            case rel => exact ⟨k + 1, X ++ [c], ⟨#[]⟩, rt, po, pc, by omega, by rw [show (k : Int) + 1 = ((k + 1 : Nat) : Int) by omega], by simp, rfl, rfl, by simp; omega, Nat.zero_le _, H5, ⟨by rw [HW2.out.1, if_neg HNE.out, List.map_append]; rfl, HW2.out.2⟩⟩
            case measure => simp only [intOf]; omega
          · have e0 := empty_of h0
            subst e0
            go_wp2_with fail
            go_roundw
            case rel => exact ⟨k + 1, X, ⟨#[]⟩, rt, lo, lc, by omega, by rw [show (k : Int) + 1 = ((k + 1 : Nat) : Int) by omega], rfl, rfl, rfl, by omega, Nat.zero_le _, HO, ⟨by rw [HW2.out.1, if_pos (show bs ⟨#[]⟩ = [] from rfl), List.append_nil]; rfl, HW2.out.2⟩⟩
            case measure => simp only [intOf]; omega
        · have hg' : gap x = false := by simpa using hg
          rw [hg']
          have HW2 : Hid (wordsOf (bs s) = X.map bs ++ wordsF (bs (c ++ s.extract k (k + 1))) (hashOf ((bs s).drop (k + 1))) ∧ rightL (bs s) = ((rt && okB x) && (hashOf ((bs s).drop (k + 1))).all fun b => gap b || okB b)) := by
            obtain ⟨a1, a2⟩ := HW.out
            rw [HST.out] at a1 a2
            refine ⟨?_, by rw [a2, List.all_cons, hg']; simp [Bool.and_assoc]⟩
            rw [a1, wordsF, if_neg hg, bs_append, extract_one s k x HB.out]
          have HSZ2 : Hid ((c ++ s.extract k (k + 1)).size ≤ k + 1) := by
            have e := bs_len (c ++ s.extract k (k + 1))
            rw [bs_append, List.length_append, bs_len, extract_one s k x HB.out, List.length_singleton] at e
            show _ ≤ _
            omega
          have c3 : (0 : Int) ≤ (k : Int) + 1 := by omega
          have c4 : (k : Int) + 1 ≤ (s.size : Int) := by omega
          have c6 : IntKind.i64.wrap ((k : Int) + 1) = (k : Int) + 1 := by rw [IntKind.wrap_i64] <;> omega
          clear hg hg' HW HST d1 HBL
          have hok : okB x = (decide ((x.toNat : Int) ≥ 33) && decide ((x.toNat : Int) ≤ 126)) := by
            unfold okB
            have e1 : decide (33 ≤ x.toNat) = decide ((x.toNat : Int) ≥ 33) := by rw [decide_eq_decide]; omega
            have e2 : decide (x.toNat ≤ 126) = decide ((x.toNat : Int) ≤ 126) := by rw [decide_eq_decide]; omega
            rw [e1, e2]
          have HOK : Hid (okB x = (decide ((x.toNat : Int) ≥ 33) && decide ((x.toNat : Int) ≤ 126))) := hok
          clear hok
          go_upto_region 9 with fail
          obtain ⟨c2, hc2⟩ : ∃ c2, c ++ s.extract k (k + 1) = c2 := ⟨_, rfl⟩
          rw [hc2] at HW2 HSZ2
          try rw [hc2]
          clear hc2
          rcases rt with _ | _
          · go_wp2_with fail
            go_roundw
            case rel => exact ⟨k + 1, X, c2, false, lo, lc, by omega, by rw [show (k : Int) + 1 = ((k + 1 : Nat) : Int) by omega], rfl, rfl, rfl, by omega, HSZ2.out, HO, ⟨HW2.out.1, by rw [HW2.out.2]; rfl⟩⟩
            case measure => simp only [intOf]; omega
          · by_cases p1 : 33 ≤ x.toNat
            · have d1 : decide ((x.toNat : Int) ≥ 33) = true := by simp; omega
              by_cases p2 : x.toNat ≤ 126
              · have d2 : decide ((x.toNat : Int) ≤ 126) = true := by simp; omega
                have HR : Hid (rightL (bs s) = (true && (hashOf ((bs s).drop (k + 1))).all fun b => gap b || okB b)) := by show _ = _; rw [HW2.out.2, HOK.out, d1, d2]; rfl
                go_wp2_with fail
                go_roundw
                case rel => exact ⟨k + 1, X, c2, true, lo, lc, by omega, by rw [show (k : Int) + 1 = ((k + 1 : Nat) : Int) by omega], rfl, rfl, rfl, by omega, HSZ2.out, HO, ⟨HW2.out.1, HR.out⟩⟩
                case measure => simp only [intOf]; omega
              · have d2 : decide ((x.toNat : Int) ≤ 126) = false := by simp; omega
                have HR : Hid (rightL (bs s) = (false && (hashOf ((bs s).drop (k + 1))).all fun b => gap b || okB b)) := by show _ = _; rw [HW2.out.2, HOK.out, d1, d2]; rfl
                go_wp2_with fail
                go_roundw
                case rel => exact ⟨k + 1, X, c2, false, lo, lc, by omega, by rw [show (k : Int) + 1 = ((k + 1 : Nat) : Int) by omega], rfl, rfl, rfl, by omega, HSZ2.out, HO, ⟨HW2.out.1, HR.out⟩⟩
                case measure => simp only [intOf]; omega
            · have d1 : decide ((x.toNat : Int) ≥ 33) = false := by simp; omega
              have HR : Hid (rightL (bs s) = (false && (hashOf ((bs s).drop (k + 1))).all fun b => gap b || okB b)) := by show _ = _; rw [HW2.out.2, HOK.out, d1]; rfl
              go_wp2_with fail
              go_roundw
              case rel => exact ⟨k + 1, X, c2, false, lo, lc, by omega, by rw [show (k : Int) + 1 = ((k + 1 : Nat) : Int) by omega], rfl, rfl, rfl, by omega, HSZ2.out, HO, ⟨HW2.out.1, HR.out⟩⟩
              case measure => simp only [intOf]; omega
    · have i3 : decide ((k : Int) < (s.size : Int)) = false := by simp; omega
      have HTL : Hid (hashOf ((bs s).drop k) = []) := by
        show _ = _
        rw [List.drop_eq_nil_of_le (by rw [HSZ.out]; omega)]
        rfl
      have HL : Hid (wordsOf (bs s) = X.map bs ++ (if bs c = [] then [] else [bs c]) ∧ rightL (bs s) = rt) := by
        obtain ⟨a1, a2⟩ := HW.out
        rw [HTL.out] at a1 a2
        exact ⟨a1, by rw [a2]; simp⟩
      clear HW HTL
      by_cases h0 : 0 < c.size
      · have f1 : c.toList.isEmpty = false := nonempty_of h0
        have f2 : ¬ c.toList = [] := fun e => by rw [e] at f1; cases f1
        have HNE : Hid (bs c ≠ []) := fun e => by have := bs_len c; rw [e] at this; simp at this; omega
        go_wp2_with (at_builtin; refine wpList_append_own _ rfl _ _ 45 rfl w.heap.size 9 i0 (.string ⟨#[]⟩) 1 16 Tryd.underlying45 HI0.out.1 HI0.out.2.1 HI0.out.2.2.1 HI0.out.2.2.2 rfl (by decide) _ X.length (X.map Value.string) rfl (sown_keep HO.out.1 ((Below.refl _ wr).alloc (Nat.le_refl _) _)) ⟨wr.heap.size, 0, none⟩ 1 1 [.string c] rfl rfl (new_cellsG wr [.string c] 9) (by simp [Value.oneCell']) (by unfold maxLen; omega) (by omega) (by have := HO.out.2.size; simp; omega) ?_; intro v5 w5 hown5 hgr5 _; have H5 : Hid (w5.ownsRow w.heap.size 9 1 v5 (X ++ [c]).length ((X ++ [c]).map Value.string) ∧ Below w.heap.size w w5) := str_more HO.out.1 HO.out.2 hown5 hgr5; clear hown5 hgr5; obtain ⟨po, pc, hv5⟩ := slice_ofG H5.out.1; subst hv5)
        go_ret2
        refine ⟨po, pc, X ++ [c], by rw [HL.out.2, List.length_append]; rfl, by rw [List.map_append, HL.out.1, if_neg HNE.out]; rfl, H5.out.1, H5.out.2⟩
      · have e0 := empty_of h0
        subst e0
        go_wp2
        go_ret2
        refine ⟨lo, lc, X, by rw [HL.out.2]; rfl, by rw [HL.out.1, if_pos (show bs ⟨#[]⟩ = [] from rfl), List.append_nil], HO.out.1, HO.out.2⟩
end Go.Proofs.YtghbekpilhnkfaaDoor.Gt
