/- the law GtextTurned. -/
import Derived.Test.YtghbekpilhnkfaaDoorGuD
import Derived.Test.YtghbekpilhnkfaaDoorGvM
import Derived.Test.YtghbekpilhnkfaaDoorGtR
namespace Go.Proofs.YtghbekpilhnkfaaDoor.Gt
open Go Go.Lib Go.RowKit Go.Extern Hi

attribute [local go_sem] Oper.semAt_some

theorem bs_of_size (x : ByteArray) (n : Nat) (h : (bs x).length ≤ n) : x.size ≤ n := by rw [← bs_len]; exact h
theorem tdrop {L : List PR} {j : Nat} {p : PR} (h : L[j]? = some p) : L.drop j = p :: L.drop (j + 1) := by
  obtain ⟨hl, he⟩ := List.getElem?_eq_some_iff.1 h
  rw [List.drop_eq_getElem_cons hl, he]
theorem bdrop {l : By} {j : Nat} {p : UInt8} (h : l[j]? = some p) : l.drop j = p :: l.drop (j + 1) := by
  obtain ⟨hl, he⟩ := List.getElem?_eq_some_iff.1 h
  rw [List.drop_eq_getElem_cons hl, he]
theorem seen_at {c a : Int} {v : Value} {g : Nat} {w : World} (ht : IsTold w (c, [(1, a)]) v) (hg : w.heap[g]? = some (.cells #[.int .i64 1, .int .i64 a] 66)) (hH : HasType w) :
    Calls Tryd.prog 12 #[v, .agg #[.int .i64 c, .slice (some ⟨g, 0, none⟩) 1 1]] w fun r w' => r = .returned (.bool true) ∧ Below w.heap.size w w' :=
  seen_told (c, [(1, a)]) v (some ⟨g, 0, none⟩) 1 w ht (place_one hg).1 (by simp [maxLen]) hH
/-- the state of the second loop. -/
def TuI (k : Int) (L : List PR) (j : Nat) (o t m : ByteArray) : Prop := bs o ++ outF k j (L.drop j) = outF k 0 L ∧ bs t ++ twF k j (L.drop j) = twF k 0 L ∧ bs m ++ moF k j (L.drop j) = moF k 0 L
theorem TuI.off {k : Int} {L : List PR} {j : Nat} {o t m x : ByteArray} {p : PR} (h : TuI k L j o t m) (hp : L[j]? = some p) (hx : bs x = lineT p) (hk : (j : Int) ≠ k) : TuI k L (j + 1) (o ++ (x ++ ⟨#[10]⟩)) (t ++ (x ++ ⟨#[10]⟩)) (m ++ x ++ ⟨#[10]⟩) := by
  obtain ⟨h1, h2, h3⟩ := h
  rw [tdrop hp] at h1 h2 h3
  rw [outF, if_pos hk] at h1
  rw [twF, if_neg hk] at h2
  rw [moF, if_neg hk] at h3
  refine ⟨?_, ?_, ?_⟩
  · rw [← h1, bs_append, bs_append, hx]; simp; rfl
  · rw [← h2, bs_append, bs_append, hx]; simp; rfl
  · rw [← h3, bs_append, bs_append, hx]; simp; rfl
theorem TuI.on {k : Int} {L : List PR} {j : Nat} {o t m x : ByteArray} {p : PR} (h : TuI k L j o t m) (hp : L[j]? = some p) (hx : bs x = lineT p) (hk : (j : Int) = k) : TuI k L (j + 1) o (t ++ (x ++ ⟨#[10]⟩) ++ (x ++ ⟨#[10]⟩)) (m ++ x ++ ⟨#[32, 48]⟩ ++ ⟨#[10]⟩) := by
  obtain ⟨h1, h2, h3⟩ := h
  rw [tdrop hp] at h1 h2 h3
  rw [outF, if_neg (by omega)] at h1
  rw [twF, if_pos hk] at h2
  rw [moF, if_pos hk] at h3
  have e1 : bs (⟨#[10]⟩ : ByteArray) = [10] := rfl
  have e2 : bs (⟨#[32, 48]⟩ : ByteArray) = [32, 48] := rfl
  refine ⟨by rw [← h1]; simp, ?_, ?_⟩
  · rw [← h2, bs_append, bs_append, bs_append, hx, e1]; simp
  · rw [← h3, bs_append, bs_append, bs_append, hx, e1, e2]; simp
theorem TuI.size {k : Int} {L : List PR} {j : Nat} {o t m : ByteArray} (h : TuI k L j o t m) (h1 : (outF k 0 L).length ≤ 50000) (h2 : (twF k 0 L).length ≤ 50000) (h3 : (moF k 0 L).length ≤ 50000) : o.size ≤ 50000 ∧ t.size ≤ 50000 ∧ m.size ≤ 50000 := by
  obtain ⟨a1, a2, a3⟩ := h
  have b1 := congrArg List.length a1
  have b2 := congrArg List.length a2
  have b3 := congrArg List.length a3
  rw [List.length_append, bs_len] at b1 b2 b3
  omega

set_option maxRecDepth 100000 in
set_option maxHeartbeats 32000000 in
theorem gturned_calls (N : Int) (ao : Option Addr) (cap : Nat) (xs : List Arc3) (k : Int) (w : World) (hl : HasArcs w (.slice ao xs.length cap) xs) (hm : xs.length ≤ maxLen) (hT : TabW w) (hH : HasType w) :
    Calls Tryd.prog 7 #[.agg #[.int .i64 N, .slice ao xs.length cap], .int .i64 k] w fun e w' => e = .returned (.bool true) ∧ Below w.heap.size w w' := by
  obtain ⟨z, hz⟩ : ∃ z, w.heap.size = z := ⟨_, rfl⟩
  obtain ⟨W1, hW1⟩ : ∃ W1, w.alloc (.cells #[.int .i64 N, .slice ao xs.length cap] 24) = W1 := ⟨_, rfl⟩
  have HW1 : Hid (w.alloc (.cells #[.int .i64 N, .slice ao xs.length cap] 24) = W1) := hW1
  have n0 : W1.heap[z]? = some (.cells #[.int .i64 N, .slice ao xs.length cap] 24) := by rw [← hW1, ← hz]; exact heap_newG _ _
  have hb1 : Below w.heap.size w W1 := by rw [← hW1]; exact (Below.refl _ _).alloc (Nat.le_refl _) _
  have HK1 : Hid (∀ wx, Below W1.heap.size W1 wx → wx.cell? ⟨z, 0, none⟩ = some (.int .i64 N) ∧ wx.cell? ⟨z, 1, none⟩ = some (.slice ao xs.length cap) ∧ HasArcs wx (.slice ao xs.length cap) xs ∧ TabW wx ∧ HasType wx ∧ Below w.heap.size w wx) := fun wx hx => by
    have m := (hx.block _ (Array.getElem?_eq_some_iff.1 n0).1).trans n0
    have hb := hb1.trans (hx.mono hb1.size)
    exact ⟨by simp [World.cell?, m], by simp [World.cell?, m], hl.keep hb, hT.keep hb hT.lt, hH.keep hb hH.pos, hb⟩
  have HAW : Hid (Calls Tryd.prog 9 #[] W1 fun e w' => e = .returned (.bool true) ∧ Below W1.heap.size W1 w') := awake3_calls W1 (HK1.out W1 (Below.refl _ _)).2.2.2.1 (HK1.out W1 (Below.refl _ _)).2.2.2.2.1
  clear hW1 n0 hb1 hT hH hl
  go_enter Tryd.func7, Tryd.ntmps7
  go_upto_region 1 with fail
  rw [HW1.out]
  try rw [hz]
  clear hz
  go_wp2_with fail
  refine HAW.out.mono ?_
  rintro e y1 ⟨rfl, hy1⟩
  have HY1 : Hid (Below W1.heap.size W1 y1) := hy1
  obtain ⟨c0, c1, hA1, _, _, _⟩ := HK1.out y1 hy1
  have HCK : Hid (Calls Tryd.prog 13 #[.agg #[.int .i64 N, .slice ao xs.length cap]] y1 fun e w' => ∃ v, e = .returned v ∧ IsTold w' (graphErr N xs) v ∧ Below y1.heap.size y1 w') := check_calls N ao cap xs y1 hA1 hm
  clear hy1 HAW hA1
  go_wp2_with fail
  refine HCK.out.mono ?_
  rintro e y2 ⟨v, rfl, htd, hy2⟩
  have hb2 : Below W1.heap.size W1 y2 := btrG HY1.out hy2
  have HY2 : Hid (Below W1.heap.size W1 y2 ∧ Below w.heap.size w y2) := ⟨hb2, (HK1.out y2 hb2).2.2.2.2.2⟩
  clear hy2 HCK c0 c1
  obtain ⟨c0, c1, hA2, hT2, _, _⟩ := HK1.out y2 hb2
  rcases told_shape htd with ⟨hE, rfl⟩ | ⟨hE, Tu, uu, rfl⟩
  · obtain ⟨n, rfl, hg⟩ := graph_iff.1 hE
    by_cases hl1 : xs.length = 0
    · have j1 : decide ((xs.length : Int) < 1) = true := by simp; omega
      clear htd hE hg hl1 hA2 hT2 hb2
      go_wp2
      go_ret
      exact ⟨rfl, HY2.out.2⟩
    · have j1 : decide ((xs.length : Int) < 1) = false := by simp; omega
      by_cases hl2 : 200 < xs.length
      · have j2 : decide ((xs.length : Int) > 200) = true := by simp; omega
        clear htd hE hg hl1 hl2 hA2 hT2 hb2
        go_wp2
        go_ret
        exact ⟨rfl, HY2.out.2⟩
      · have j2 : decide ((xs.length : Int) > 200) = false := by simp; omega
        have hx200 : xs.length ≤ 200 := by omega
        have HG : Hid (GOk n xs ∧ graphErr (n : Int) xs = (0, []) ∧ 1 ≤ xs.length) := ⟨hg, hE, by omega⟩
        have HPR : Hid (Calls Tryd.prog 10 #[.agg #[.int .i64 (n : Int), .slice ao xs.length cap]] y2 (PrA n xs y2)) := print_calls n ao cap xs y2 hA2 hm hT2
        clear htd hE hg hl1 hl2 hA2 hT2 hb2
        go_wp2_with fail
        refine HPR.out.mono ?_
        rintro e y3 ⟨s, v3, rfl, hs, htd, hy3⟩
        rw [HG.out.2.1] at htd
        obtain rfl := told_nil htd
        have hpl : bs s = prL n xs := by rw [hs]; unfold prS; rw [if_pos HG.out.2.1]
        have hb3 : Below W1.heap.size W1 y3 := btrG HY2.out.1 hy3
        have HY3 : Hid (Below W1.heap.size W1 y3 ∧ bs s = prL n xs) := ⟨hb3, hpl⟩
        have hss : s.size ≤ 50000 := by
          have h1 := pfx_len HG.out.1 xs.length (Nat.le_refl _)
          have h2 := congrArg List.length hpl
          rw [bs_len, ← pfx_end, List.length_append] at h2
          have h3 : (rowL ewd []).length = 4 := rfl
          omega
        obtain ⟨i0, hi9, hzz⟩ := Option.map_eq_some_iff.1 infoStr
        simp only [Prod.mk.injEq] at hzz
        have HI0 : Hid (Tryd.prog.info? 9 = some i0 ∧ i0.zero = some (.string ⟨#[]⟩) ∧ i0.size = 1 ∧ i0.bytes = 16) := ⟨hi9, hzz⟩
        have HLN : Hid (lnsA [] (bs s) = (prR n xs).map lineT) := by
          show _ = _
          rw [hpl]
          exact lnsA_txt _ (prR_ok HG.out.1)
        clear hs htd hy3 hpl hb3 HPR c0 c1 hi9 hzz
        go_wp2_with fail
        go_loopw [7, 8, 9] (fun lv av iv wr => ∃ (X : List ByteArray) (lo : Option Addr) (lc a i : Nat), lv = .slice lo X.length lc ∧ av = .int .i64 a ∧ iv = .int .i64 i ∧ a ≤ i ∧ i ≤ s.size ∧ X.length ≤ i ∧ Hid (X.map bs ++ lnsA (bs (s.extract a i)) ((bs s).drop i) = lnsA [] (bs s)) ∧ Hid (wr.ownsRow y3.heap.size 9 1 (.slice lo X.length lc) X.length (X.map Value.string) ∧ Below y3.heap.size y3 wr)) (fun _ _ iv _ => s.size - (intOf iv).toNat)
        case atStart => exact ⟨[], none, 0, 0, 0, rfl, rfl, rfl, Nat.le_refl _, Nat.zero_le _, Nat.zero_le _, by show _ = _; rw [bs_extract]; rfl, ⟨World.ownsRow_nil _ _ _ _, Below.refl _ _⟩⟩
        case round =>
          obtain ⟨X, lo, lc, a, i, rfl, rfl, rfl, hai, his, hXi, HLI, HO⟩ := hrel
          rcases Nat.lt_or_eq_of_le his with h1 | h1
          · have hb := bs_at s i h1
            obtain ⟨x, hx⟩ : ∃ x, s[i]'h1 = x := ⟨_, rfl⟩
            rw [hx] at hb
            have HST : Hid ((bs s)[i]? = some x) := hb
            clear hb
            have i1 : (0 : Int) ≤ (i : Int) := by omega
            have i2 : (i : Int) < (s.size : Int) := by omega
            have i3 : decide ((i : Int) < (s.size : Int)) = true := by simp; omega
            have i4 : (a : Int) ≤ (i : Int) := by omega
            have i5 : (i : Int) ≤ (s.size : Int) := by omega
            have i6 : (0 : Int) ≤ (a : Int) := by omega
            by_cases p1 : x = 10
            · have d1 : ((x.toNat : Int) == 10) = true := by rw [p1]; rfl
              obtain ⟨c, hc⟩ : ∃ c, s.extract a i = c := ⟨_, rfl⟩
              have HC : Hid (s.extract a i = c) := hc
              have HNX : Hid ((X ++ [c]).map bs ++ lnsA (bs (s.extract (i + 1) (i + 1))) ((bs s).drop (i + 1)) = lnsA [] (bs s)) := by
                have e1 := HLI.out
                rw [bdrop HST.out, lnsA, if_pos p1, hc] at e1
                show _ = _
                rw [← e1, bs_extract, Nat.sub_self, List.take_zero]
                simp
              clear p1 hc
              go_wp2_with (at_builtin; rw [HC.out]; refine wpList_append_own _ rfl _ _ 45 rfl y3.heap.size 9 i0 (.string ⟨#[]⟩) 1 16 Tryd.underlying45 HI0.out.1 HI0.out.2.1 HI0.out.2.2.1 HI0.out.2.2.2 rfl (by decide) _ X.length (X.map Value.string) rfl (sown_keep HO.out.1 ((Below.refl _ wr).alloc (Nat.le_refl _) _)) ⟨wr.heap.size, 0, none⟩ 1 1 [.string c] rfl rfl (new_cellsG wr [.string c] 9) (by simp [Value.oneCell']) (by unfold maxLen; omega) (by omega) (by have := HO.out.2.size; simp; omega) ?_; intro v5 w5 hown5 hgr5 _; have H5 : Hid (w5.ownsRow y3.heap.size 9 1 v5 (X ++ [c]).length ((X ++ [c]).map Value.string) ∧ Below y3.heap.size y3 w5) := str_more HO.out.1 HO.out.2 hown5 hgr5; clear hown5 hgr5; obtain ⟨po, pc, hv5⟩ := slice_ofG H5.out.1; subst hv5)
              go_roundw
              case rel => exact ⟨X ++ [c], po, pc, i + 1, i + 1, by simp, by rw [show (i : Int) + 1 = ((i + 1 : Nat) : Int) by omega], by rw [show (i : Int) + 1 = ((i + 1 : Nat) : Int) by omega], by omega, by omega, by simp; omega, HNX, H5⟩
              case measure => simp only [intOf]; omega
            · have d1 : ((x.toNat : Int) == 10) = false := by
                refine beq_eq_false_iff_ne.2 fun e => p1 (UInt8.toNat_inj.1 ?_)
                show x.toNat = 10
                omega
              have HNX : Hid (X.map bs ++ lnsA (bs (s.extract a (i + 1))) ((bs s).drop (i + 1)) = lnsA [] (bs s)) := by
                have e1 := HLI.out
                rw [bdrop HST.out, lnsA, if_neg p1] at e1
                show _ = _
                have e2 : bs (s.extract a (i + 1)) = bs (s.extract a i) ++ [x] := by
                  rw [bs_extract, bs_extract, show i + 1 - a = (i - a) + 1 by omega, List.take_add_one, List.getElem?_drop, show a + (i - a) = i by omega, HST.out]
                  rfl
                rw [e2]
                exact e1
              clear p1
              go_wp2_with fail
              go_roundw
              case rel => exact ⟨X, lo, lc, a, i + 1, rfl, rfl, by rw [show (i : Int) + 1 = ((i + 1 : Nat) : Int) by omega], by omega, by omega, by omega, HNX, HO⟩
              case measure => simp only [intOf]; omega
          · have i3 : decide ((i : Int) < (s.size : Int)) = false := by simp; omega
            have HXM : Hid (X.map bs = (prR n xs).map lineT) := by
              have e1 := HLI.out
              rw [List.drop_eq_nil_of_le (by rw [bs_len]; omega), lnsA, List.append_nil, HLN.out] at e1
              exact e1
            have HXL : Hid (X.length = xs.length + 2) := by
              have e1 := congrArg List.length HXM.out
              rw [List.length_map, List.length_map, prR_len] at e1
              exact e1
            have hb4 : Below W1.heap.size W1 wr := btrG HY3.out.1 HO.out.2
            obtain ⟨c0, c1, _, _, _, hw4⟩ := HK1.out wr hb4
            have HW4 : Hid (Below w.heap.size w wr) := hw4
            clear hw4 hb4
            by_cases hk1 : k < 1
            · have j3 : decide (k < 1) = true := by simp; omega
              have j4 : ((X.length : Int) == (xs.length : Int) + 2) = true := by have := HXL.out; rw [beq_iff_eq]; omega
              go_wp2
              go_ret
              exact ⟨rfl, HW4.out⟩
            · have j3 : decide (k < 1) = false := by simp; omega
              by_cases hk2 : (xs.length : Int) < k
              · have j5 : decide (k > (xs.length : Int)) = true := by simp; omega
                have j4 : ((X.length : Int) == (xs.length : Int) + 2) = true := by have := HXL.out; rw [beq_iff_eq]; omega
                go_wp2
                go_ret
                exact ⟨rfl, HW4.out⟩
              · have j5 : decide (k > (xs.length : Int)) = false := by simp; omega
                have j6 : ((X.length : Int) != (xs.length : Int) + 2) = false := by have := HXL.out; rw [bne_eq_false_iff_eq]; omega
                obtain ⟨kn, hkn⟩ : ∃ kn : Nat, k = (kn : Int) := ⟨k.toNat, by omega⟩
                have htp := turned_ps (k := kn) HG.out.1 (by omega) (by omega) hx200
                rw [← hkn] at htp
                have HTP : Hid (type_of% htp) := htp
                have HKN : Hid (k = (kn : Int) ∧ 1 ≤ kn ∧ kn ≤ xs.length) := ⟨hkn, by omega, by omega⟩
                have hXb : X.length ≤ 202 := by have := HXL.out; omega
                clear htp hkn
                go_wp2_with fail
                clear c0 c1
                go_loopw [10, 11, 12, 90] (fun ov tv mv iv wx => ∃ (j : Nat) (o t m : ByteArray), j ≤ X.length ∧ ov = .string o ∧ tv = .string t ∧ mv = .string m ∧ iv = .int .i64 j ∧ Hid (TuI k (prR n xs) j o t m) ∧ Hid (wx.ownsRow y3.heap.size 9 1 (.slice lo X.length lc) X.length (X.map Value.string) ∧ Below y3.heap.size y3 wx)) (fun _ _ _ iv _ => X.length - (intOf iv).toNat)
                case atStart => exact ⟨0, _, _, _, Nat.zero_le _, rfl, rfl, rfl, rfl, ⟨rfl, rfl, rfl⟩, HO⟩
                case round =>
                  obtain ⟨j, o, t, m, hj, rfl, rfl, rfl, rfl, HTU, HOX⟩ := hrel
                  obtain ⟨zo, zt, zm⟩ := HTU.out.size HTP.out.2.2.2.1 HTP.out.2.2.2.2.1 HTP.out.2.2.2.2.2
                  rcases Nat.lt_or_eq_of_le hj with hj1 | hj1
                  · obtain ⟨x, hx⟩ : ∃ x, X[j]? = some x := ⟨_, List.getElem?_eq_getElem hj1⟩
                    obtain ⟨p, hp⟩ : ∃ p, (prR n xs)[j]? = some p := ⟨_, List.getElem?_eq_getElem (by rw [prR_len]; have := HXL.out; omega)⟩
                    have hbx : bs x = lineT p := by
                      have e1 := congrArg (fun l => l[j]?) HXM.out
                      simp only [List.getElem?_map, hx, hp, Option.map_some, Option.some.injEq] at e1
                      exact e1
                    have hxs : x.size ≤ 200 := by
                      have h5 := prR_ok HG.out.1 p (List.mem_of_getElem? hp)
                      have h6 := numL_size p.2 h5.2.2.1
                      have h7 := h5.2.2.2
                      rw [← bs_len, hbx]
                      unfold lineT
                      rw [List.length_append]
                      omega
                    have HXP : Hid ((prR n xs)[j]? = some p ∧ bs x = lineT p) := ⟨hp, hbx⟩
                    obtain ⟨gl, cl, hgl, _, hll⟩ := HOX.out.1.form (by omega)
                    injection hgl with hg1 _ _
                    subst hg1
                    have c0 : wr.cell? ⟨gl, j, none⟩ = some (.string x) := by
                      have e1 := HOX.out.1.cellAt j (by omega)
                      rw [e1, List.getElem?_map, hx]
                      rfl
                    have i1 : decide ((j : Int) < (X.length : Int)) = true := by simp; omega
                    have i2 : (0 : Int) ≤ (j : Int) := by omega
                    have i3 : (j : Int) < (X.length : Int) := by omega
                    by_cases hjk : (j : Int) = k
                    · have d1 : ((j : Int) != k) = false := by rw [bne_eq_false_iff_eq]; exact hjk
                      have d2 : ((j : Int) == k) = true := by rw [beq_iff_eq]; exact hjk
                      have HNX : Hid (TuI k (prR n xs) (j + 1) o (t ++ (x ++ ⟨#[10]⟩) ++ (x ++ ⟨#[10]⟩)) (m ++ x ++ ⟨#[32, 48]⟩ ++ ⟨#[10]⟩)) := HTU.out.on HXP.out.1 HXP.out.2 hjk
                      clear hjk hp hbx hx
                      go_wp2_with fail
                      go_roundw
                      case rel => exact ⟨j + 1, _, _, _, by omega, rfl, rfl, rfl, by rw [show (j : Int) + 1 = ((j + 1 : Nat) : Int) by omega], HNX, HOX⟩
                      case measure => simp only [intOf]; omega
                    · have d1 : ((j : Int) != k) = true := by rw [bne_iff_ne]; exact hjk
                      have d2 : ((j : Int) == k) = false := by rw [beq_eq_false_iff_ne]; exact hjk
                      have HNX : Hid (TuI k (prR n xs) (j + 1) (o ++ (x ++ ⟨#[10]⟩)) (t ++ (x ++ ⟨#[10]⟩)) (m ++ x ++ ⟨#[10]⟩)) := HTU.out.off HXP.out.1 HXP.out.2 hjk
                      clear hjk hp hbx hx
                      go_wp2_with fail
                      go_roundw
                      case rel => exact ⟨j + 1, _, _, _, by omega, rfl, rfl, rfl, by rw [show (j : Int) + 1 = ((j + 1 : Nat) : Int) by omega], HNX, HOX⟩
                      case measure => simp only [intOf]; omega
                  · have i1 : decide ((j : Int) < (X.length : Int)) = false := by simp; omega
                    have hdr : (prR n xs).drop j = [] := List.drop_eq_nil_of_le (by rw [prR_len]; have := HXL.out; omega)
                    obtain ⟨t1, t2, t3⟩ := HTU.out
                    rw [hdr] at t1 t2 t3
                    have t1' : bs o = outF k 0 (prR n xs) := by rw [← t1]; exact (List.append_nil _).symm
                    have t2' : bs t = twF k 0 (prR n xs) := by rw [← t2]; exact (List.append_nil _).symm
                    have t3' : bs m = moF k 0 (prR n xs) := by rw [← t3]; exact (List.append_nil _).symm
                    have HPE : Hid (psE (bs o) = (3, [(1, (xs.length : Int) + 1)]) ∧ psE (bs t) = (3, [(1, (xs.length : Int) + 1 + 1)]) ∧ psE (bs m) = (6, [(1, k + 1)])) := by
                      obtain ⟨q1, q2, q3, _⟩ := HTP.out
                      refine ⟨by rw [t1', q1]; simp, by rw [t2', q2]; simp, by rw [t3', q3, HKN.out.1]; simp⟩
                    have HP1 : Hid (Calls Tryd.prog 15 #[.string o] wr (PsA (bs o) wr)) := parse_calls o wr (by omega)
                    have HWR : Hid (Below W1.heap.size W1 wr) := btrG HY3.out.1 HOX.out.2
                    clear hdr t1 t2 t3 t1' t2' t3' HTU
                    go_wp2_with fail
                    refine HP1.out.mono ?_
                    rintro e y4 ⟨u1, a1, b1, rfl, ht1, hy4, _⟩
                    rw [HPE.out.1] at ht1
                    obtain ⟨g1, hg1⟩ : ∃ G, psG (bs o) = G := ⟨_, rfl⟩
                    rw [hg1]
                    have HY4 : Hid (Below W1.heap.size W1 y4 ∧ IsTold y4 (3, [(1, (xs.length : Int) + 1)]) u1) := ⟨btrG HWR.out hy4, ht1⟩
                    have HP2 : Hid (Calls Tryd.prog 15 #[.string t] y4 (PsA (bs t) y4)) := parse_calls t y4 (by omega)
                    clear ht1 hy4 HP1 hg1
                    go_wp2_with fail
                    refine HP2.out.mono ?_
                    rintro e y5 ⟨u2, a2, b2, rfl, ht2, hy5, _⟩
                    rw [HPE.out.2.1] at ht2
                    obtain ⟨g2, hg2⟩ : ∃ G, psG (bs t) = G := ⟨_, rfl⟩
                    rw [hg2]
                    obtain ⟨W5, hW5⟩ : ∃ W5, y5.alloc (.cells #[.int .i64 (g2.1 : Int), .slice a2 g2.2.length b2] 24) = W5 := ⟨_, rfl⟩
                    have HW5 : Hid (y5.alloc (.cells #[.int .i64 (g2.1 : Int), .slice a2 g2.2.length b2] 24) = W5) := hW5
                    have hb5 : Below y5.heap.size y5 W5 := by rw [← hW5]; exact (Below.refl _ _).alloc (Nat.le_refl _) _
                    have h45 := btrG hy5 hb5
                    have HY5 : Hid (Below W1.heap.size W1 W5 ∧ IsTold W5 (3, [(1, (xs.length : Int) + 1)]) u1 ∧ IsTold W5 (3, [(1, (xs.length : Int) + 1 + 1)]) u2) := ⟨btrG HY4.out.1 h45, HY4.out.2.keep (Below.keeps h45), ht2.keep (Below.keeps hb5)⟩
                    have HP3 : Hid (Calls Tryd.prog 15 #[.string m] W5 (PsA (bs m) W5)) := parse_calls m W5 (by omega)
                    clear ht2 hy5 hb5 h45 hW5 HP2 hg2
                    go_upto_region 33 with fail
                    rw [HW5.out]
                    go_wp2_with fail
                    refine HP3.out.mono ?_
                    rintro e y6 ⟨u3, a3, b3, rfl, ht3, hy6, _⟩
                    rw [HPE.out.2.2] at ht3
                    obtain ⟨g3, hg3⟩ : ∃ G, psG (bs m) = G := ⟨_, rfl⟩
                    rw [hg3]
                    obtain ⟨W7, hW7⟩ : ∃ W7, y6.alloc (.cells #[.int .i64 (g3.1 : Int), .slice a3 g3.2.length b3] 24) = W7 := ⟨_, rfl⟩
                    have HW7 : Hid (y6.alloc (.cells #[.int .i64 (g3.1 : Int), .slice a3 g3.2.length b3] 24) = W7) := hW7
                    have hb7 : Below y6.heap.size y6 W7 := by rw [← hW7]; exact (Below.refl _ _).alloc (Nat.le_refl _) _
                    have h67 := btrG hy6 hb7
                    have HY7 : Hid (∀ wx, Below W7.heap.size W7 wx → HasType wx ∧ Below w.heap.size w wx ∧ IsTold wx (3, [(1, (xs.length : Int) + 1)]) u1 ∧ IsTold wx (3, [(1, (xs.length : Int) + 1 + 1)]) u2 ∧ IsTold wx (6, [(1, k + 1)]) u3) := fun wx hx => by
                      obtain ⟨_, _, _, _, f1, f2⟩ := HK1.out wx (btrG (btrG HY5.out.1 h67) hx)
                      have h7x := Below.keeps (btrG h67 hx)
                      exact ⟨f1, f2, HY5.out.2.1.keep h7x, HY5.out.2.2.keep h7x, (ht3.keep (Below.keeps hb7)).keep (Below.keeps hx)⟩
                    obtain ⟨c0, c1, _, _, _, _⟩ := HK1.out W7 (btrG HY5.out.1 h67)
                    clear ht3 hy6 hb7 h67 hW7 HP3 hg3
                    go_upto_region 34 with fail
                    rw [HW7.out]
                    go_wp2_with fail
                    refine (E_calls 3 W7).mono ?_
                    rintro e y8 ⟨rfl, hy8⟩
                    have H8 : Hid (Below W7.heap.size W7 y8) := hy8
                    clear hy8 c0 c1
                    go_wp2_with fail
                    refine (refAt_calls 1 ((xs.length : Int) + 1) 3 y8).mono ?_
                    rintro e y9 ⟨p9, rfl, hp9, hy9⟩
                    have H9 : Hid (Below W7.heap.size W7 y9) := btrG H8.out hy9
                    have HS9 := seen_at (HY7.out y9 H9.out).2.2.1 hp9 (HY7.out y9 H9.out).1
                    have HSA : Hid (Calls Tryd.prog 12 #[u1, .agg #[.int .i64 3, .slice (some ⟨p9, 0, none⟩) 1 1]] y9 fun r w' => r = .returned (.bool true) ∧ Below y9.heap.size y9 w') := HS9
                    clear hy9 hp9 HS9
                    go_wp2_with fail
                    refine HSA.out.mono ?_
                    rintro e y10 ⟨rfl, hy10⟩
                    have H10 : Hid (Below W7.heap.size W7 y10) := btrG H9.out hy10
                    clear hy10 HSA
                    go_wp2_with fail
                    refine (E_calls 3 y10).mono ?_
                    rintro e y11 ⟨rfl, hy11⟩
                    have H11 : Hid (Below W7.heap.size W7 y11) := btrG H10.out hy11
                    clear hy11
                    go_wp2_with fail
                    refine (refAt_calls 1 ((xs.length : Int) + 1 + 1) 3 y11).mono ?_
                    rintro e y12 ⟨p12, rfl, hp12, hy12⟩
                    have H12 : Hid (Below W7.heap.size W7 y12) := btrG H11.out hy12
                    have HS12 := seen_at (HY7.out y12 H12.out).2.2.2.1 hp12 (HY7.out y12 H12.out).1
                    have HSB : Hid (Calls Tryd.prog 12 #[u2, .agg #[.int .i64 3, .slice (some ⟨p12, 0, none⟩) 1 1]] y12 fun r w' => r = .returned (.bool true) ∧ Below y12.heap.size y12 w') := HS12
                    clear hy12 hp12 HS12
                    go_wp2_with fail
                    refine HSB.out.mono ?_
                    rintro e y13 ⟨rfl, hy13⟩
                    have H13 : Hid (Below W7.heap.size W7 y13) := btrG H12.out hy13
                    clear hy13 HSB
                    go_wp2_with fail
                    refine (E_calls 6 y13).mono ?_
                    rintro e y14 ⟨rfl, hy14⟩
                    have H14 : Hid (Below W7.heap.size W7 y14) := btrG H13.out hy14
                    clear hy14
                    go_wp2_with fail
                    refine (refAt_calls 1 (k + 1) 6 y14).mono ?_
                    rintro e y15 ⟨p15, rfl, hp15, hy15⟩
                    have H15 : Hid (Below W7.heap.size W7 y15) := btrG H14.out hy15
                    have HS15 := seen_at (HY7.out y15 H15.out).2.2.2.2 hp15 (HY7.out y15 H15.out).1
                    have HSC : Hid (Calls Tryd.prog 12 #[u3, .agg #[.int .i64 6, .slice (some ⟨p15, 0, none⟩) 1 1]] y15 fun r w' => r = .returned (.bool true) ∧ Below y15.heap.size y15 w') := HS15
                    clear hy15 hp15 HS15
                    go_wp2_with fail
                    refine HSC.out.mono ?_
                    rintro e y16 ⟨rfl, hy16⟩
                    have H16 : Hid (Below w.heap.size w y16) := (HY7.out y16 (btrG H15.out hy16)).2.1
                    clear hy16 HSC
                    go_wp2
                    go_ret
                    exact ⟨rfl, H16.out⟩
  · clear htd hE hA2 hT2 hb2
    go_wp2
    go_ret
    exact ⟨rfl, HY2.out.2⟩
end Go.Proofs.YtghbekpilhnkfaaDoor.Gt
