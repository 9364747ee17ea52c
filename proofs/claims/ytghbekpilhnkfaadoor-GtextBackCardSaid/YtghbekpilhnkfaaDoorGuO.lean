/- the law GtextBack. -/
import Derived.Test.YtghbekpilhnkfaaDoorGuD
import Derived.Test.YtghbekpilhnkfaaDoorGuN
namespace Go.Proofs.YtghbekpilhnkfaaDoor.Gt
open Go Go.Lib Go.RowKit Go.Extern Hi

attribute [local go_sem] Oper.semAt_some

theorem drop_at {l : By} {k : Nat} {b : UInt8} (h : l[k]? = some b) : l.drop k = b :: l.drop (k + 1) := by
  obtain ⟨hl, he⟩ := List.getElem?_eq_some_iff.1 h
  rw [List.drop_eq_getElem_cons hl, he]
set_option maxRecDepth 100000 in
set_option maxHeartbeats 2000000 in
theorem tooWide_calls (s : ByteArray) (w : World) (hs : s.size ≤ 281474976710656) : Calls Tryd.prog 18 #[.string s] w fun e w' => e = .returned (.bool (tooW 0 (bs s))) ∧ w' = w := by
  go_enter Tryd.func18, Tryd.ntmps18
  go_wp2_with fail
  go_loopw [3, 4] (fun nv iv wr => ∃ n k : Nat, k ≤ s.size ∧ n ≤ 200 ∧ nv = .int .i64 n ∧ iv = .int .i64 k ∧ Hid (tooW 0 (bs s) = tooW n ((bs s).drop k)) ∧ wr = w) (fun _ iv _ => s.size - (intOf iv).toNat)
  case atStart => exact ⟨0, 0, Nat.zero_le _, Nat.zero_le _, rfl, rfl, rfl, rfl⟩
  case round =>
    obtain ⟨n, k, hk, hn, rfl, rfl, HA, rfl⟩ := hrel
    rcases Nat.lt_or_eq_of_le hk with h1 | h1
    · have hb := bs_at s k h1
      obtain ⟨x, hx⟩ : ∃ x, s[k]'h1 = x := ⟨_, rfl⟩
      rw [hx] at hb
      have HB : Hid (tooW n ((bs s).drop k) = if 200 < (if x = 10 then 0 else n + 1) then true else tooW (if x = 10 then 0 else n + 1) ((bs s).drop (k + 1))) := by
        show _ = _
        rw [drop_at hb, tooW]
      clear hb
      have i1 : (0 : Int) ≤ (k : Int) := by omega
      have i2 : (k : Int) < (s.size : Int) := by omega
      have i3 : decide ((k : Int) < (s.size : Int)) = true := by simp; omega
      by_cases p1 : x = 10
      · have d1 : ((x.toNat : Int) == 10) = true := by rw [p1]; rfl
        have HC : Hid (tooW 0 (bs s) = tooW 0 ((bs s).drop (k + 1))) := by
          show _ = _
          rw [HA.out, HB.out, if_pos p1, if_neg (by omega)]
        clear p1
        go_wp2_with fail
        go_roundw
        case rel => exact ⟨0, k + 1, by omega, by omega, rfl, by rw [show (k : Int) + 1 = ((k + 1 : Nat) : Int) by omega], HC, by trivial⟩
        case measure => simp only [intOf]; omega
      · have d1 : ((x.toNat : Int) == 10) = false := by
          refine beq_eq_false_iff_ne.2 fun e => p1 (UInt8.toNat_inj.1 ?_)
          show x.toNat = 10
          omega
        by_cases p2 : n = 200
        · have d2 : decide ((n : Int) + 1 > 200) = true := by simp; omega
          have HC : Hid (tooW 0 (bs s) = true) := by
            show _ = _
            rw [HA.out, HB.out, if_neg p1, if_pos (by omega)]
          clear p1
          go_wp2
          go_ret
          exact ⟨by rw [HC.out]; rfl, rfl⟩
        · have d2 : decide ((n : Int) + 1 > 200) = false := by simp; omega
          have HC : Hid (tooW 0 (bs s) = tooW (n + 1) ((bs s).drop (k + 1))) := by
            show _ = _
            rw [HA.out, HB.out, if_neg p1, if_neg (by omega)]
          clear p1
          go_wp2_with fail
          go_roundw
          case rel => exact ⟨n + 1, k + 1, by omega, by omega, by rw [show (n : Int) + 1 = ((n + 1 : Nat) : Int) by omega], by rw [show (k : Int) + 1 = ((k + 1 : Nat) : Int) by omega], HC, by trivial⟩
          case measure => simp only [intOf]; omega
    · have i3 : decide ((k : Int) < (s.size : Int)) = false := by simp; omega
      have HC : Hid (tooW 0 (bs s) = false) := by
        show _ = _
        rw [HA.out, List.drop_eq_nil_of_le (by rw [bs_len]; omega), tooW]
      go_wp2
      go_ret
      exact ⟨by rw [HC.out]; rfl, rfl⟩
theorem psG_bad {t : By} (h : psE t ≠ (0, [])) : psG t = (0, []) := by
  unfold psE at h
  unfold psG
  split
  · rename_i h1
    rw [if_pos h1] at h
    by_cases h2 : (gR (rowsR t)).1.1 = 0
    · rw [if_pos h2] at h
      exact absurd rfl h
    · exact gR_bad h2
  · rfl
theorem own_lenB {w : World} {B n m : Nat} {e : TypeId} {z : Nat} {ao : Option Addr} {xs : List Value} (h : w.ownsRow B e z (.slice ao n m) n xs) : n ≤ maxLen := by
  rcases h.2 with ⟨e1, h0⟩ | ⟨g, cap, cur, e1, hg, hh, hc, hcm, r⟩
  · rw [h0]; exact Nat.zero_le _
  · omega
/-- arcs do not lie in a graph's box. -/
theorem arcs_set {W : World} {lv : Value} {l : List Arc3} {z : Nat} {i : Int} {so : Option Addr} {n m : Nat} {T : TypeId} (h : HasArcs W lv l) (hz : W.heap[z]? = some (.cells #[.int .i64 i, .slice so n m] T)) (u v : Value) : HasArcs ((W.setCell ⟨z, 0, none⟩ u).setCell ⟨z, 1, none⟩ v) lv l := by
  obtain ⟨ao, cap, e, hc⟩ := h
  refine ⟨ao, cap, e, fun j a hj => ?_⟩
  obtain ⟨b, off, ea, hl, h0, h1, h2⟩ := hc j a hj
  have hne : b ≠ z := by
    rintro rfl
    simp only [World.cell?, hz] at h0 h1
    rcases ho : off + j * 3 with _ | _ | o
    · rw [ho] at h1; simp at h1
    · rw [ho] at h0; simp at h0
    · rw [ho] at h0; simp at h0
  have k : ∀ q, ((W.setCell ⟨z, 0, none⟩ u).setCell ⟨z, 1, none⟩ v).cell? ⟨b, q, none⟩ = W.cell? ⟨b, q, none⟩ := fun q => by
    have e9 : ((W.setCell ⟨z, 0, none⟩ u).setCell ⟨z, 1, none⟩ v).heap[b]? = W.heap[b]? := (Below.heap_setCell _ _ _ _ (by exact hne)).trans (Below.heap_setCell _ _ _ _ (by exact hne))
    simp only [World.cell?, e9]
  exact ⟨b, off, ea, by simpa [World.setCell] using hl, (k _).trans h0, (k _).trans h1, (k _).trans h2⟩
theorem wide_step {t : By} {k : Nat} {b : UInt8} (h : t[k]? = some b) : hdr ++ (t.take (k + 1)).flatMap wd = hdr ++ (t.take k).flatMap wd ++ wd b := by
  rw [List.take_add_one, h, Option.toList, List.flatMap_append, List.append_assoc]
  simp
theorem bs_add (a b : ByteArray) : bs (a ++ b) = bs a ++ bs b := by
  unfold bs
  rw [ByteArray.data_append, Array.toList_append]
theorem bs_one {s : ByteArray} {k : Nat} {b : UInt8} (h : (bs s)[k]? = some b) : bs (s.extract k (k + 1)) = [b] := by
  rw [bs_extract, drop_at h, show k + 1 - k = 1 by omega]
  rfl

set_option maxRecDepth 100000 in
set_option maxHeartbeats 16000000 in
theorem gback_calls (s : ByteArray) (w : World) (hs : s.size ≤ 281474976710656) (hT : TabW w) (hH : HasType w) :
    Calls Tryd.prog 6 #[.string s] w fun e w' => e = .returned (.bool true) ∧ Below w.heap.size w w' := by
  have HAW : Hid (Calls Tryd.prog 9 #[] w fun e w' => e = .returned (.bool true) ∧ Below w.heap.size w w') := awake3_calls w hT hH
  have HH : Hid (∀ wx, Below w.heap.size w wx → TabW wx) := fun wx hx => hT.keep hx hT.lt
  have HSZ : Hid (s.size ≤ 281474976710656) := hs
  clear hT hH
  go_enter Tryd.func6, Tryd.ntmps6
  go_wp2_with fail
  refine HAW.out.mono ?_
  rintro e y1 ⟨rfl, hy1⟩
  have HY1 : Hid (Below w.heap.size w y1) := hy1
  have HPA : Hid (Calls Tryd.prog 15 #[.string s] y1 (PsA (bs s) y1)) := parse_calls s y1 HSZ.out
  clear hy1 HAW
  go_wp2_with fail
  refine HPA.out.mono ?_
  rintro e y2 ⟨v, ao, ac, rfl, htd, hy2, hown⟩
  obtain ⟨E, hE⟩ : ∃ E, psE (bs s) = E := ⟨_, rfl⟩
  obtain ⟨n, xs, hG⟩ : ∃ n xs, psG (bs s) = (n, xs) := ⟨_, _, rfl⟩
  rw [hE] at htd
  rw [hG] at hown ⊢
  simp only at hown ⊢
  have hA := arcs_of hown
  have hXL : xs.length ≤ maxLen := own_lenB hown
  obtain ⟨z1, hz1⟩ : ∃ z1, y2.heap.size = z1 := ⟨_, rfl⟩
  obtain ⟨W3, hW3⟩ : ∃ W3, y2.alloc (.cells #[.int .i64 (n : Int), .slice ao xs.length ac] 24) = W3 := ⟨_, rfl⟩
  have HW3 : Hid (y2.alloc (.cells #[.int .i64 (n : Int), .slice ao xs.length ac] 24) = W3) := hW3
  have m3 : W3.heap[z1]? = some (.cells #[.int .i64 (n : Int), .slice ao xs.length ac] 24) := by rw [← hW3, ← hz1]; exact heap_newG _ _
  have hb3 : Below y2.heap.size y2 W3 := by rw [← hW3]; exact (Below.refl _ _).alloc (Nat.le_refl _) _
  have HK3 : Hid (∀ wx, Below W3.heap.size W3 wx → wx.cell? ⟨z1, 0, none⟩ = some (.int .i64 (n : Int)) ∧ wx.cell? ⟨z1, 1, none⟩ = some (.slice ao xs.length ac) ∧ HasArcs wx (.slice ao xs.length ac) xs ∧ TabW wx ∧ Below w.heap.size w wx) := fun wx hx => by
    have m := (hx.block _ (Array.getElem?_eq_some_iff.1 m3).1).trans m3
    have h2 := btrG hb3 hx
    have hbw := btrG (btrG HY1.out hy2) h2
    exact ⟨by simp [World.cell?, m], by simp [World.cell?, m], hA.keep h2, HH.out wx hbw, hbw⟩
  have HZ1 : Hid (w.heap.size ≤ z1 ∧ z1 < W3.heap.size) := by
    have := (Array.getElem?_eq_some_iff.1 m3).1
    have h4 := HY1.out.size
    have h5 := hy2.size
    exact ⟨by omega, this⟩
  obtain ⟨c0, c1, hA3, hT3, hbw3⟩ := HK3.out W3 (Below.refl _ _)
  rcases told_shape htd with ⟨hE0, rfl⟩ | ⟨hE0, Tu, uu, rfl⟩
  · have hg : GOk n xs := by
      have := psG_right (t := bs s) (by rw [hE]; exact hE0)
      rw [hG] at this
      exact this
    have HG : Hid (GOk n xs ∧ graphErr (n : Int) xs = (0, []) ∧ psE (bs s) = (0, []) ∧ psG (bs s) = (n, xs)) := ⟨hg, graph_iff.2 ⟨n, rfl, hg⟩, by rw [hE]; exact hE0, hG⟩
    have HPR : Hid (Calls Tryd.prog 10 #[.agg #[.int .i64 (n : Int), .slice ao xs.length ac]] W3 (PrA n xs W3)) := print_calls n ao ac xs W3 hA3 hXL hT3
    clear htd hown hA hW3 m3 hb3 hy2 HPA hE hG hE0 hg hA3 hT3 hbw3
    go_upto_region 4 with fail
    rw [HW3.out]
    try rw [hz1]
    go_wp2_with fail
    refine HPR.out.mono ?_
    rintro e y4 ⟨t, v4, rfl, ht, htd, hy4⟩
    rw [HG.out.2.1] at htd
    obtain rfl := told_nil htd
    have hpl : bs t = prL n xs := by rw [ht]; unfold prS; rw [if_pos HG.out.2.1]
    obtain ⟨d0, d1, hA4, _, _⟩ := HK3.out y4 hy4
    have HT : Hid (bs t = prL n xs ∧ Below W3.heap.size W3 y4) := ⟨hpl, hy4⟩
    have htz : t.size ≤ 281474976710656 := by
      have h1 := pfx_len HG.out.1 xs.length (Nat.le_refl _)
      have h2 := congrArg List.length hpl
      rw [bs_len, ← pfx_end, List.length_append] at h2
      have h3 : (rowL ewd []).length = 4 := rfl
      have h4 := HG.out.1.2.1
      omega
    have HCK : Hid (Calls Tryd.prog 13 #[.agg #[.int .i64 (n : Int), .slice ao xs.length ac]] y4 fun e w' => ∃ v, e = .returned v ∧ IsTold w' (graphErr n xs) v ∧ Below y4.heap.size y4 w') := check_calls n ao ac xs y4 hA4 hXL
    clear ht htd hpl hy4 hA4 HPR c0 c1
    go_wp2_with fail
    refine HCK.out.mono ?_
    rintro e y5 ⟨v5, rfl, htd, hy5⟩
    rw [HG.out.2.1] at htd
    obtain rfl := told_nil htd
    have H5 : Hid (Below W3.heap.size W3 y5) := btrG HT.out.2 hy5
    have HPB : Hid (Calls Tryd.prog 15 #[.string t] y5 (PsA (bs t) y5)) := parse_calls t y5 htz
    clear htd hy5 HCK d0 d1
    go_wp2_with fail
    refine HPB.out.mono ?_
    rintro e y6 ⟨v6, bo, bc, rfl, htd, hy6, hown⟩
    obtain ⟨n2, ys, hG2⟩ : ∃ n xs, psG (bs t) = (n, xs) := ⟨_, _, rfl⟩
    rw [hG2] at hown ⊢
    simp only at hown ⊢
    have hB := arcs_of hown
    obtain ⟨z2, hz2⟩ : ∃ z2, y6.heap.size = z2 := ⟨_, rfl⟩
    obtain ⟨W7, hW7⟩ : ∃ W7, y6.alloc (.cells #[.int .i64 (n2 : Int), .slice bo ys.length bc] 24) = W7 := ⟨_, rfl⟩
    have HW7 : Hid (y6.alloc (.cells #[.int .i64 (n2 : Int), .slice bo ys.length bc] 24) = W7) := hW7
    have m7 : W7.heap[z2]? = some (.cells #[.int .i64 (n2 : Int), .slice bo ys.length bc] 24) := by rw [← hW7, ← hz2]; exact heap_newG _ _
    have hb7 : Below y6.heap.size y6 W7 := by rw [← hW7]; exact (Below.refl _ _).alloc (Nat.le_refl _) _
    have h37 : Below W3.heap.size W3 W7 := btrG (btrG H5.out hy6) hb7
    have HK7 : Hid (∀ wx, Below W7.heap.size W7 wx → wx.cell? ⟨z1, 0, none⟩ = some (.int .i64 (n : Int)) ∧ wx.cell? ⟨z1, 1, none⟩ = some (.slice ao xs.length ac) ∧ HasArcs wx (.slice ao xs.length ac) xs ∧ wx.heap[z2]? = some (.cells #[.int .i64 (n2 : Int), .slice bo ys.length bc] 24) ∧ HasArcs wx (.slice bo ys.length bc) ys ∧ Below w.heap.size w wx ∧ Below W3.heap.size W3 wx) := fun wx hx => by
      have m := (hx.block _ (Array.getElem?_eq_some_iff.1 m7).1).trans m7
      obtain ⟨g0, g1, g2, _, g4⟩ := HK3.out wx (btrG h37 hx)
      exact ⟨g0, g1, g2, m, hB.keep (btrG hb7 hx), g4, btrG h37 hx⟩
    have HZ2 : Hid (W3.heap.size ≤ z2 ∧ z1 ≠ z2) := by
      have h4 := H5.out.size
      have h5 := hy6.size
      have h6 := HZ1.out.2
      exact ⟨by omega, by omega⟩
    have HPS : Hid (t.size ≤ 1048576 → psE (bs t) = (0, []) ∧ (n2, ys) = (n, xs)) := fun hle => by
      have h1 := ps_pr HG.out.1 (by rw [← HT.out.1, bs_len]; exact hle)
      rw [← HT.out.1] at h1
      exact ⟨h1.1, by rw [← hG2]; exact h1.2⟩
    have HTD : Hid (IsTold y6 (psE (bs t)) v6) := htd
    have HTZ : Hid (t.size ≤ 281474976710656) := htz
    clear htd hown hB hW7 m7 hb7 h37 hy6 HPB hG2 htz
    go_upto_region 10 with fail
    rw [HW7.out]
    try rw [hz2]
    by_cases hle : t.size ≤ 1048576
    · have j1 : decide ((t.size : Int) ≤ 1048576) = true := by simp; omega
      obtain ⟨e1, e2⟩ := HPS.out hle
      have htd := HTD.out
      rw [e1] at htd
      obtain rfl := told_nil htd
      obtain ⟨rfl, rfl⟩ : n2 = n ∧ ys = xs := by injection e2 with a b; exact ⟨a, b⟩
      obtain ⟨q0, q1, hA7, m7, hB7, _, _⟩ := HK7.out W7 (Below.refl _ _)
      have r0 : W7.cell? ⟨z2, 0, none⟩ = some (.int .i64 (n2 : Int)) := by simp [World.cell?, m7]
      have r1 : W7.cell? ⟨z2, 1, none⟩ = some (.slice bo ys.length bc) := by simp [World.cell?, m7]
      have HSM : Hid (Calls Tryd.prog 17 #[.agg #[.int .i64 (n2 : Int), .slice ao ys.length ac], .agg #[.int .i64 (n2 : Int), .slice bo ys.length bc]] W7 fun e w' => e = .returned (.bool true) ∧ Below W7.heap.size W7 w') := same_yes n2 _ _ _ _ _ _ ys W7 hA7 hB7 hXL
      clear htd e1 e2 hle hA7 m7 hB7
      go_wp2_with fail
      refine HSM.out.mono ?_
      rintro e y8 ⟨rfl, hy8⟩
      have H8 : Hid (Below W7.heap.size W7 y8) := hy8
      clear hy8 q0 q1 r0 r1 HSM
      by_cases hlong : 2000 < s.size
      · have j2 : decide ((s.size : Int) > 2000) = true := by simp; omega
        have H9 : Hid (Below w.heap.size w y8) := (HK7.out y8 H8.out).2.2.2.2.2.1
        clear hlong
        go_wp2
        go_ret
        exact ⟨rfl, H9.out⟩
      · have j2 : decide ((s.size : Int) > 2000) = false := by simp; omega
        have hs2 : s.size ≤ 2000 := by omega
        go_wp2_with fail
        go_loopw [8, 9] (fun sv iv wr => ∃ (k : Nat) (u : ByteArray), k ≤ s.size ∧ sv = .string u ∧ iv = .int .i64 k ∧ Hid (bs u = hdr ++ ((bs s).take k).flatMap wd) ∧ Hid (Below W7.heap.size W7 wr)) (fun _ iv _ => s.size - (intOf iv).toNat)
        case atStart => exact ⟨0, _, Nat.zero_le _, rfl, rfl, rfl, H8⟩
        case round =>
          obtain ⟨k, u, hk, rfl, rfl, HU, HWR⟩ := hrel
          have hu : u.size ≤ 22011 := by
            have h1 := wide_len ((bs s).take k)
            unfold wideL at h1
            rw [← HU.out, bs_len, List.length_take] at h1
            omega
          rcases Nat.lt_or_eq_of_le hk with h1 | h1
          · have hb := bs_at s k h1
            obtain ⟨x, hx⟩ : ∃ x, s[k]'h1 = x := ⟨_, rfl⟩
            rw [hx] at hb
            have HST : Hid ((bs s)[k]? = some x) := hb
            clear hb
            have i1 : (0 : Int) ≤ (k : Int) := by omega
            have i2 : (k : Int) < (s.size : Int) := by omega
            have i3 : decide ((k : Int) < (s.size : Int)) = true := by simp; omega
            have i4 : (k : Int) ≤ (k : Int) + 1 := by omega
            have i5 : (k : Int) + 1 ≤ (s.size : Int) := by omega
            have i6 : (0 : Int) ≤ (k : Int) + 1 := by omega
            by_cases p1 : x = 10
            · have d1 : ((x.toNat : Int) == 10) = true := by rw [p1]; rfl
              have HC : Hid (bs (u ++ ⟨#[9, 10, 32, 32, 35, 32, 109, 111, 114, 101, 10]⟩) = hdr ++ ((bs s).take (k + 1)).flatMap wd) := by
                show _ = _
                rw [wide_step HST.out, ← HU.out, bs_add, p1]
                rfl
              clear p1
              go_wp2_with fail
              go_roundw
              case rel => exact ⟨k + 1, _, by omega, rfl, by rw [show (k : Int) + 1 = ((k + 1 : Nat) : Int) by omega], HC, HWR⟩
              case measure => simp only [intOf]; omega
            · have d1 : ((x.toNat : Int) == 10) = false := by
                refine beq_eq_false_iff_ne.2 fun e => p1 (UInt8.toNat_inj.1 ?_)
                show x.toNat = 10
                omega
              by_cases p2 : x = 32
              · have d2 : ((x.toNat : Int) == 32) = true := by rw [p2]; rfl
                have HC : Hid (bs (u ++ ⟨#[32, 9]⟩) = hdr ++ ((bs s).take (k + 1)).flatMap wd) := by
                  show _ = _
                  rw [wide_step HST.out, ← HU.out, bs_add, p2]
                  rfl
                clear p1 p2
                go_wp2_with fail
                go_roundw
                case rel => exact ⟨k + 1, _, by omega, rfl, by rw [show (k : Int) + 1 = ((k + 1 : Nat) : Int) by omega], HC, HWR⟩
                case measure => simp only [intOf]; omega
              · have d2 : ((x.toNat : Int) == 32) = false := by
                  refine beq_eq_false_iff_ne.2 fun e => p2 (UInt8.toNat_inj.1 ?_)
                  show x.toNat = 32
                  omega
                have HC : Hid (bs (u ++ s.extract k (k + 1)) = hdr ++ ((bs s).take (k + 1)).flatMap wd) := by
                  show _ = _
                  rw [wide_step HST.out, ← HU.out, bs_add, bs_one HST.out]
                  unfold wd
                  rw [if_neg p1, if_neg p2]
                have hu1 : (s.extract k (k + 1)).size = 1 := by rw [← bs_len, bs_one HST.out]; rfl
                clear p1 p2
                go_wp2_with fail
                go_roundw
                case rel => exact ⟨k + 1, _, by omega, rfl, by rw [show (k : Int) + 1 = ((k + 1 : Nat) : Int) by omega], HC, HWR⟩
                case measure => simp only [intOf]; omega
          · have i3 : decide ((k : Int) < (s.size : Int)) = false := by simp; omega
            have HUU : Hid (bs u = wideL (bs s)) := by
              show _ = _
              rw [HU.out, List.take_of_length_le (by rw [bs_len]; omega)]
              rfl
            have HPC : Hid (Calls Tryd.prog 15 #[.string u] wr (PsA (bs u) wr)) := parse_calls u wr (by omega)
            obtain ⟨_, _, _, hm0, _, _, _⟩ := HK7.out wr HWR.out
            clear hm0
            go_wp2_with (first | fail)
            refine HPC.out.mono ?_
            rintro e y9 ⟨v9, co, cc, rfl, htd, hy9, hown⟩
            obtain ⟨n3, zs, hG3⟩ : ∃ n xs, psG (bs u) = (n, xs) := ⟨_, _, rfl⟩
            rw [hG3] at hown ⊢
            simp only at hown ⊢
            have hC := arcs_of hown
            obtain ⟨q0, q1, hA9, m9, hB9, hw9, h39⟩ := HK7.out y9 (btrG HWR.out hy9)
            obtain ⟨W9, hW9⟩ : ∃ W9, (y9.setCell ⟨z2, 0, none⟩ (.int .i64 (n3 : Int))).setCell ⟨z2, 1, none⟩ (.slice co zs.length cc) = W9 := ⟨_, rfl⟩
            have HW9 : Hid ((y9.setCell ⟨z2, 0, none⟩ (.int .i64 (n3 : Int))).setCell ⟨z2, 1, none⟩ (.slice co zs.length cc) = W9) := hW9
            have f0 : y9.cell? ⟨z2, 0, none⟩ = some (.int .i64 (n2 : Int)) := by simp [World.cell?, m9]
            have f1 : y9.cell? ⟨z2, 1, none⟩ = some (.slice bo ys.length bc) := by simp [World.cell?, m9]
            have f2 : y9.frozen? ⟨z2, 0, none⟩ = false := by simp [World.frozen?, m9]
            have f3 : y9.frozen? ⟨z2, 1, none⟩ = false := by simp [World.frozen?, m9]
            obtain ⟨g1, g2⟩ := set_far hw9 (Nat.le_trans (Nat.le_trans HZ1.out.1 (Nat.le_of_lt HZ1.out.2)) HZ2.out.1) (.int .i64 (n3 : Int)) (.slice co zs.length cc)
            have t2 := set_twoG m9 (.int .i64 (n3 : Int)) (.slice co zs.length cc)
            have hA10 := arcs_set hA9 m9 (.int .i64 (n3 : Int)) (.slice co zs.length cc)
            have hC10 := arcs_set hC m9 (.int .i64 (n3 : Int)) (.slice co zs.length cc)
            have o1 := g2 z1 HZ2.out.2
            rw [hW9] at g1 t2 hA10 hC10 o1
            have t0 : W9.cell? ⟨z2, 0, none⟩ = some (.int .i64 (n3 : Int)) := by simp [World.cell?, t2]
            have t1 : W9.cell? ⟨z2, 1, none⟩ = some (.slice co zs.length cc) := by simp [World.cell?, t2]
            have s0 : W9.cell? ⟨z1, 0, none⟩ = some (.int .i64 (n2 : Int)) := by
              have e : W9.cell? ⟨z1, 0, none⟩ = y9.cell? ⟨z1, 0, none⟩ := by simp only [World.cell?, o1]
              rw [e]; exact q0
            have s1 : W9.cell? ⟨z1, 1, none⟩ = some (.slice ao ys.length ac) := by
              have e : W9.cell? ⟨z1, 1, none⟩ = y9.cell? ⟨z1, 1, none⟩ := by simp only [World.cell?, o1]
              rw [e]; exact q1
            have H9 : Hid (Below w.heap.size w W9) := g1
            have hpw := ps_wide HG.out.2.2.1 (by rw [bs_len]; omega)
            rw [← HUU.out] at hpw
            rcases hpw with ⟨e1, e2⟩ | ⟨e1, e2⟩
            · rw [e1] at htd
              obtain rfl := told_nil htd
              rw [hG3, HG.out.2.2.2] at e2
              obtain ⟨rfl, rfl⟩ : n3 = n2 ∧ zs = ys := by injection e2 with a b; exact ⟨a, b⟩
              have HSM : Hid (Calls Tryd.prog 17 #[.agg #[.int .i64 (n3 : Int), .slice ao zs.length ac], .agg #[.int .i64 (n3 : Int), .slice co zs.length cc]] W9 fun e w' => e = .returned (.bool true) ∧ Below W9.heap.size W9 w') := same_yes n3 _ _ _ _ _ _ zs W9 hA10 hC10 hXL
              clear htd hy9 hown hC q0 q1 hA9 m9 hB9 hw9 h39 g1 g2 t2 hA10 hC10 o1 hG3 e1 e2 hW9 HPC
              go_upto_region 25 with fail
              rw [HW9.out]
              go_wp2_with fail
              refine HSM.out.mono ?_
              rintro e y10 ⟨rfl, hy10⟩
              have H10 : Hid (Below w.heap.size w y10) := btrG H9.out hy10
              clear hy10
              go_wp2
              go_ret
              exact ⟨rfl, H10.out⟩
            · rcases told_shape htd with ⟨hE0, _⟩ | ⟨hE0, T9, u9, rfl⟩
              · exact absurd hE0 e1
              · have HTW : Hid (Calls Tryd.prog 18 #[.string u] W9 fun e w' => e = .returned (.bool (tooW 0 (bs u))) ∧ w' = W9) := tooWide_calls u W9 (by omega)
                rw [e2] at HTW
                clear htd hy9 hown hC q0 q1 hA9 m9 hB9 hw9 h39 g1 g2 t2 hA10 hC10 o1 hG3 e1 e2 hW9 HPC hE0
                go_upto_region 25 with fail
                rw [HW9.out]
                go_wp2_with fail
                refine HTW.out.mono ?_
                rintro e y10 ⟨rfl, rfl⟩
                go_wp2
                go_ret
                exact ⟨rfl, H9.out⟩
    · have j1 : decide ((t.size : Int) ≤ 1048576) = false := by simp; omega
      have H8 : Hid (Below W7.heap.size W7 W7) := Below.refl _ _
      clear hle
      by_cases hlong : 2000 < s.size
      · have j2 : decide ((s.size : Int) > 2000) = true := by simp; omega
        have H9 : Hid (Below w.heap.size w W7) := (HK7.out W7 H8.out).2.2.2.2.2.1
        clear hlong
        go_wp2
        go_ret
        exact ⟨rfl, H9.out⟩
      · have j2 : decide ((s.size : Int) > 2000) = false := by simp; omega
        have hs2 : s.size ≤ 2000 := by omega
        go_wp2_with fail
        go_loopw [8, 9] (fun sv iv wr => ∃ (k : Nat) (u : ByteArray), k ≤ s.size ∧ sv = .string u ∧ iv = .int .i64 k ∧ Hid (bs u = hdr ++ ((bs s).take k).flatMap wd) ∧ Hid (Below W7.heap.size W7 wr)) (fun _ iv _ => s.size - (intOf iv).toNat)
        case atStart => exact ⟨0, _, Nat.zero_le _, rfl, rfl, rfl, H8⟩
        case round =>
          obtain ⟨k, u, hk, rfl, rfl, HU, HWR⟩ := hrel
          have hu : u.size ≤ 22011 := by
            have h1 := wide_len ((bs s).take k)
            unfold wideL at h1
            rw [← HU.out, bs_len, List.length_take] at h1
            omega
          rcases Nat.lt_or_eq_of_le hk with h1 | h1
          · have hb := bs_at s k h1
            obtain ⟨x, hx⟩ : ∃ x, s[k]'h1 = x := ⟨_, rfl⟩
            rw [hx] at hb
            have HST : Hid ((bs s)[k]? = some x) := hb
            clear hb
            have i1 : (0 : Int) ≤ (k : Int) := by omega
            have i2 : (k : Int) < (s.size : Int) := by omega
            have i3 : decide ((k : Int) < (s.size : Int)) = true := by simp; omega
            have i4 : (k : Int) ≤ (k : Int) + 1 := by omega
            have i5 : (k : Int) + 1 ≤ (s.size : Int) := by omega
            have i6 : (0 : Int) ≤ (k : Int) + 1 := by omega
            by_cases p1 : x = 10
            · have d1 : ((x.toNat : Int) == 10) = true := by rw [p1]; rfl
              have HC : Hid (bs (u ++ ⟨#[9, 10, 32, 32, 35, 32, 109, 111, 114, 101, 10]⟩) = hdr ++ ((bs s).take (k + 1)).flatMap wd) := by
                show _ = _
                rw [wide_step HST.out, ← HU.out, bs_add, p1]
                rfl
              clear p1
              go_wp2_with fail
              go_roundw
              case rel => exact ⟨k + 1, _, by omega, rfl, by rw [show (k : Int) + 1 = ((k + 1 : Nat) : Int) by omega], HC, HWR⟩
              case measure => simp only [intOf]; omega
            · have d1 : ((x.toNat : Int) == 10) = false := by
                refine beq_eq_false_iff_ne.2 fun e => p1 (UInt8.toNat_inj.1 ?_)
                show x.toNat = 10
                omega
              by_cases p2 : x = 32
              · have d2 : ((x.toNat : Int) == 32) = true := by rw [p2]; rfl
                have HC : Hid (bs (u ++ ⟨#[32, 9]⟩) = hdr ++ ((bs s).take (k + 1)).flatMap wd) := by
                  show _ = _
                  rw [wide_step HST.out, ← HU.out, bs_add, p2]
                  rfl
                clear p1 p2
                go_wp2_with fail
                go_roundw
                case rel => exact ⟨k + 1, _, by omega, rfl, by rw [show (k : Int) + 1 = ((k + 1 : Nat) : Int) by omega], HC, HWR⟩
                case measure => simp only [intOf]; omega
              · have d2 : ((x.toNat : Int) == 32) = false := by
                  refine beq_eq_false_iff_ne.2 fun e => p2 (UInt8.toNat_inj.1 ?_)
                  show x.toNat = 32
                  omega
                have HC : Hid (bs (u ++ s.extract k (k + 1)) = hdr ++ ((bs s).take (k + 1)).flatMap wd) := by
                  show _ = _
                  rw [wide_step HST.out, ← HU.out, bs_add, bs_one HST.out]
                  unfold wd
                  rw [if_neg p1, if_neg p2]
                have hu1 : (s.extract k (k + 1)).size = 1 := by rw [← bs_len, bs_one HST.out]; rfl
                clear p1 p2
                go_wp2_with fail
                go_roundw
                case rel => exact ⟨k + 1, _, by omega, rfl, by rw [show (k : Int) + 1 = ((k + 1 : Nat) : Int) by omega], HC, HWR⟩
                case measure => simp only [intOf]; omega
          · have i3 : decide ((k : Int) < (s.size : Int)) = false := by simp; omega
            have HUU : Hid (bs u = wideL (bs s)) := by
              show _ = _
              rw [HU.out, List.take_of_length_le (by rw [bs_len]; omega)]
              rfl
            have HPC : Hid (Calls Tryd.prog 15 #[.string u] wr (PsA (bs u) wr)) := parse_calls u wr (by omega)
            obtain ⟨_, _, _, hm0, _, _, _⟩ := HK7.out wr HWR.out
            clear hm0
            go_wp2_with (first | fail)
            refine HPC.out.mono ?_
            rintro e y9 ⟨v9, co, cc, rfl, htd, hy9, hown⟩
            obtain ⟨n3, zs, hG3⟩ : ∃ n xs, psG (bs u) = (n, xs) := ⟨_, _, rfl⟩
            rw [hG3] at hown ⊢
            simp only at hown ⊢
            have hC := arcs_of hown
            obtain ⟨q0, q1, hA9, m9, hB9, hw9, h39⟩ := HK7.out y9 (btrG HWR.out hy9)
            obtain ⟨W9, hW9⟩ : ∃ W9, (y9.setCell ⟨z2, 0, none⟩ (.int .i64 (n3 : Int))).setCell ⟨z2, 1, none⟩ (.slice co zs.length cc) = W9 := ⟨_, rfl⟩
            have HW9 : Hid ((y9.setCell ⟨z2, 0, none⟩ (.int .i64 (n3 : Int))).setCell ⟨z2, 1, none⟩ (.slice co zs.length cc) = W9) := hW9
            have f0 : y9.cell? ⟨z2, 0, none⟩ = some (.int .i64 (n2 : Int)) := by simp [World.cell?, m9]
            have f1 : y9.cell? ⟨z2, 1, none⟩ = some (.slice bo ys.length bc) := by simp [World.cell?, m9]
            have f2 : y9.frozen? ⟨z2, 0, none⟩ = false := by simp [World.frozen?, m9]
            have f3 : y9.frozen? ⟨z2, 1, none⟩ = false := by simp [World.frozen?, m9]
            obtain ⟨g1, g2⟩ := set_far hw9 (Nat.le_trans (Nat.le_trans HZ1.out.1 (Nat.le_of_lt HZ1.out.2)) HZ2.out.1) (.int .i64 (n3 : Int)) (.slice co zs.length cc)
            have t2 := set_twoG m9 (.int .i64 (n3 : Int)) (.slice co zs.length cc)
            have hA10 := arcs_set hA9 m9 (.int .i64 (n3 : Int)) (.slice co zs.length cc)
            have hC10 := arcs_set hC m9 (.int .i64 (n3 : Int)) (.slice co zs.length cc)
            have o1 := g2 z1 HZ2.out.2
            rw [hW9] at g1 t2 hA10 hC10 o1
            have t0 : W9.cell? ⟨z2, 0, none⟩ = some (.int .i64 (n3 : Int)) := by simp [World.cell?, t2]
            have t1 : W9.cell? ⟨z2, 1, none⟩ = some (.slice co zs.length cc) := by simp [World.cell?, t2]
            have s0 : W9.cell? ⟨z1, 0, none⟩ = some (.int .i64 (n : Int)) := by
              have e : W9.cell? ⟨z1, 0, none⟩ = y9.cell? ⟨z1, 0, none⟩ := by simp only [World.cell?, o1]
              rw [e]; exact q0
            have s1 : W9.cell? ⟨z1, 1, none⟩ = some (.slice ao xs.length ac) := by
              have e : W9.cell? ⟨z1, 1, none⟩ = y9.cell? ⟨z1, 1, none⟩ := by simp only [World.cell?, o1]
              rw [e]; exact q1
            have H9 : Hid (Below w.heap.size w W9) := g1
            have hpw := ps_wide HG.out.2.2.1 (by rw [bs_len]; omega)
            rw [← HUU.out] at hpw
            rcases hpw with ⟨e1, e2⟩ | ⟨e1, e2⟩
            · rw [e1] at htd
              obtain rfl := told_nil htd
              rw [hG3, HG.out.2.2.2] at e2
              obtain ⟨rfl, rfl⟩ : n3 = n ∧ zs = xs := by injection e2 with a b; exact ⟨a, b⟩
              have HSM : Hid (Calls Tryd.prog 17 #[.agg #[.int .i64 (n3 : Int), .slice ao zs.length ac], .agg #[.int .i64 (n3 : Int), .slice co zs.length cc]] W9 fun e w' => e = .returned (.bool true) ∧ Below W9.heap.size W9 w') := same_yes n3 _ _ _ _ _ _ zs W9 hA10 hC10 hXL
              clear htd hy9 hown hC q0 q1 hA9 m9 hB9 hw9 h39 g1 g2 t2 hA10 hC10 o1 hG3 e1 e2 hW9 HPC
              go_upto_region 25 with fail
              rw [HW9.out]
              go_wp2_with fail
              refine HSM.out.mono ?_
              rintro e y10 ⟨rfl, hy10⟩
              have H10 : Hid (Below w.heap.size w y10) := btrG H9.out hy10
              clear hy10
              go_wp2
              go_ret
              exact ⟨rfl, H10.out⟩
            · rcases told_shape htd with ⟨hE0, _⟩ | ⟨hE0, T9, u9, rfl⟩
              · exact absurd hE0 e1
              · have HTW : Hid (Calls Tryd.prog 18 #[.string u] W9 fun e w' => e = .returned (.bool (tooW 0 (bs u))) ∧ w' = W9) := tooWide_calls u W9 (by omega)
                rw [e2] at HTW
                clear htd hy9 hown hC q0 q1 hA9 m9 hB9 hw9 h39 g1 g2 t2 hA10 hC10 o1 hG3 e1 e2 hW9 HPC hE0
                go_upto_region 25 with fail
                rw [HW9.out]
                go_wp2_with fail
                refine HTW.out.mono ?_
                rintro e y10 ⟨rfl, rfl⟩
                go_wp2
                go_ret
                exact ⟨rfl, H9.out⟩
  · have hz : psG (bs s) = (0, []) := psG_bad (by rw [hE]; exact hE0)
    rw [hG] at hz
    obtain ⟨rfl, rfl⟩ : n = 0 ∧ xs = [] := by injection hz with a b; exact ⟨a, b⟩
    have H9 : Hid (Below w.heap.size w W3) := hbw3
    have c1' : W3.cell? ⟨z1, 1, none⟩ = some (.slice ao 0 ac) := c1
    have c0' : W3.cell? ⟨z1, 0, none⟩ = some (.int .i64 0) := c0
    have HW4 : Hid (y2.alloc (.cells #[.int .i64 0, .slice ao 0 ac] 24) = W3) := HW3.out
    clear htd hown hA hW3 m3 hb3 hy2 HPA hE hG hE0 hz hA3 hT3 hbw3
    go_upto_region 4 with fail
    rw [HW4.out]
    try rw [hz1]
    go_wp2
    go_ret
    exact ⟨rfl, H9.out⟩
end Go.Proofs.YtghbekpilhnkfaaDoor.Gt
