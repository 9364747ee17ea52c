/- the law GtextThere. -/
import Derived.Test.YtghbekpilhnkfaaDoorGuD
namespace Go.Proofs.YtghbekpilhnkfaaDoor.Gt
open Go Go.Lib Go.RowKit Go.Extern Hi

attribute [local go_sem] Oper.semAt_some

theorem own_lenT {w : World} {B n m : Nat} {e : TypeId} {z : Nat} {ao : Option Addr} {xs : List Value} (h : w.ownsRow B e z (.slice ao n m) n xs) : n ≤ maxLen := by
  rcases h.2 with ⟨e1, h0⟩ | ⟨g, cap, cur, e1, hg, hh, hc, hcm, r⟩
  · rw [h0]; exact Nat.zero_le _
  · omega

set_option maxRecDepth 100000 in
set_option maxHeartbeats 8000000 in
theorem gthere_calls (N : Int) (ao : Option Addr) (cap : Nat) (xs : List Arc3) (w : World) (hl : HasArcs w (.slice ao xs.length cap) xs) (hm : xs.length ≤ maxLen) (hT : TabW w) (hH : HasType w) :
    Calls Tryd.prog 5 #[.agg #[.int .i64 N, .slice ao xs.length cap]] w fun e w' => e = .returned (.bool true) ∧ Below w.heap.size w w' := by
  obtain ⟨z, hz⟩ : ∃ z, w.heap.size = z := ⟨_, rfl⟩
  obtain ⟨W1, hW1⟩ : ∃ W1, w.alloc (.cells #[.int .i64 N, .slice ao xs.length cap] 24) = W1 := ⟨_, rfl⟩
  have HW1 : Hid (w.alloc (.cells #[.int .i64 N, .slice ao xs.length cap] 24) = W1) := hW1
  have n0 : W1.heap[z]? = some (.cells #[.int .i64 N, .slice ao xs.length cap] 24) := by rw [← hW1, ← hz]; exact heap_newG _ _
  have hb1 : Below w.heap.size w W1 := by rw [← hW1]; exact (Below.refl _ _).alloc (Nat.le_refl _) _
  have HK1 : Hid (∀ wx, Below W1.heap.size W1 wx → wx.cell? ⟨z, 0, none⟩ = some (.int .i64 N) ∧ wx.cell? ⟨z, 1, none⟩ = some (.slice ao xs.length cap) ∧ HasArcs wx (.slice ao xs.length cap) xs ∧ TabW wx ∧ HasType wx ∧ Below w.heap.size w wx) := fun wx hx => by
    have m := (hx.block _ (Array.getElem?_eq_some_iff.1 n0).1).trans n0
    have hb := hb1.trans (hx.mono hb1.size)
    exact ⟨by simp [World.cell?, m], by simp [World.cell?, m], hl.keep hb, hT.keep hb hT.lt, hH.keep hb hH.pos, hb⟩
  have HAW : Hid (Calls Tryd.prog 9 #[] W1 fun e w' => e = .returned (.bool true) ∧ Below W1.heap.size W1 w') := awake3_calls W1 (HK1.out W1 (Below.refl _ _)).2.2.2.1 (HK1.out W1 (Below.refl _ _)).2.2.2.2.1
  clear hW1 n0 hb1 hT hH hl
  go_enter Tryd.func5, Tryd.ntmps5
  go_upto_region 1 with fail
  rw [HW1.out]
  try rw [hz]
  go_wp2_with fail
  refine HAW.out.mono ?_
  rintro e y1 ⟨rfl, hy1⟩
  have HY1 : Hid (Below W1.heap.size W1 y1) := hy1
  obtain ⟨c0, c1, hA1, hT1, _, _⟩ := HK1.out y1 hy1
  have HPR : Hid (Calls Tryd.prog 10 #[.agg #[.int .i64 N, .slice ao xs.length cap]] y1 (PrA N xs y1)) := print_calls N ao cap xs y1 hA1 hm hT1
  clear hy1 HAW hA1 hT1
  go_wp2_with fail
  refine HPR.out.mono ?_
  rintro e y2 ⟨s, v, rfl, hs, htd, hy2⟩
  have hb2 : Below W1.heap.size W1 y2 := btrG HY1.out hy2
  have HY2 : Hid (Below W1.heap.size W1 y2 ∧ Below w.heap.size w y2) := ⟨hb2, (HK1.out y2 hb2).2.2.2.2.2⟩
  clear hy2 hb2 HPR c0 c1
  rcases told_shape htd with ⟨hE, rfl⟩ | ⟨hE, Tu, uu, rfl⟩
  · clear htd
    obtain ⟨n, rfl, hg⟩ := graph_iff.1 hE
    have hsl : bs s = prL n xs := by rw [hs]; unfold prS; rw [if_pos hE]
    by_cases hlen : 1048576 < s.size
    · have i1 : decide ((s.size : Int) > 1048576) = true := by simp; omega
      clear hsl hs hE hg
      go_wp2
      go_ret
      exact ⟨rfl, HY2.out.2⟩
    · have i1 : decide ((s.size : Int) > 1048576) = false := by simp; omega
      have hpp := ps_pr hg (by rw [← hsl, bs_len]; omega)
      rw [← hsl] at hpp
      have HPP : Hid (psE (bs s) = (0, []) ∧ psG (bs s) = (n, xs)) := hpp
      have HG : Hid (graphErr (n : Int) xs = (0, [])) := hE
      have HPA : Hid (Calls Tryd.prog 15 #[.string s] y2 (PsA (bs s) y2)) := parse_calls s y2 (by omega)
      clear hsl hs hE hg hpp
      go_wp2_with fail
      refine HPA.out.mono ?_
      rintro e y3 ⟨u, bo, bc, rfl, htd, hy3, hown⟩
      rw [HPP.out.1] at htd
      rw [HPP.out.2] at hown ⊢
      simp only at hown ⊢
      obtain rfl := told_nil htd
      have hA := arcs_of hown
      obtain ⟨z1, hz1⟩ : ∃ z1, y3.heap.size = z1 := ⟨_, rfl⟩
      obtain ⟨W3, hW3⟩ : ∃ W3, y3.alloc (.cells #[.int .i64 (n : Int), .slice bo xs.length bc] 24) = W3 := ⟨_, rfl⟩
      have HW3 : Hid (y3.alloc (.cells #[.int .i64 (n : Int), .slice bo xs.length bc] 24) = W3) := hW3
      have m3 : W3.heap[z1]? = some (.cells #[.int .i64 (n : Int), .slice bo xs.length bc] 24) := by rw [← hW3, ← hz1]; exact heap_newG _ _
      have hb3 : Below y3.heap.size y3 W3 := by rw [← hW3]; exact (Below.refl _ _).alloc (Nat.le_refl _) _
      have h13 : Below W1.heap.size W1 W3 := btrG (btrG HY2.out.1 hy3) hb3
      obtain ⟨c0, c1, hA1, _, _, _⟩ := HK1.out W3 h13
      have d0 : W3.cell? ⟨z1, 0, none⟩ = some (.int .i64 (n : Int)) := by simp [World.cell?, m3]
      have d1 : W3.cell? ⟨z1, 1, none⟩ = some (.slice bo xs.length bc) := by simp [World.cell?, m3]
      have HSM : Hid (Calls Tryd.prog 17 #[.agg #[.int .i64 (n : Int), .slice ao xs.length cap], .agg #[.int .i64 (n : Int), .slice bo xs.length bc]] W3 fun e w' => e = .returned (.bool true) ∧ Below W3.heap.size W3 w') := same_yes n _ _ _ _ _ _ xs W3 hA1 (hA.keep hb3) hm
      have HQ : Hid (∀ wx, Below W3.heap.size W3 wx → wx.cell? ⟨z1, 0, none⟩ = some (.int .i64 (n : Int)) ∧ wx.cell? ⟨z1, 1, none⟩ = some (.slice bo xs.length bc) ∧ HasArcs wx (.slice bo xs.length bc) xs ∧ Below w.heap.size w wx) := fun wx hx => by
        have m := (hx.block _ (Array.getElem?_eq_some_iff.1 m3).1).trans m3
        exact ⟨by simp [World.cell?, m], by simp [World.cell?, m], (hA.keep hb3).keep hx, (HK1.out wx (btrG h13 hx)).2.2.2.2.2⟩
      clear htd hy3 hown hA hW3 m3 hb3 h13 hA1 HPA
      go_upto_region 7 with fail
      rw [HW3.out]
      try rw [hz1]
      go_wp2_with fail
      refine HSM.out.mono ?_
      rintro e y4 ⟨rfl, hy4⟩
      obtain ⟨e0, e1, hA4, _⟩ := HQ.out y4 hy4
      have HY4 : Hid (Below W3.heap.size W3 y4) := hy4
      have HCK : Hid (Calls Tryd.prog 13 #[.agg #[.int .i64 (n : Int), .slice bo xs.length bc]] y4 fun e w' => ∃ v, e = .returned v ∧ IsTold w' (graphErr n xs) v ∧ Below y4.heap.size y4 w') := check_calls n bo bc xs y4 hA4 hm
      clear hy4 hA4 c0 c1 d0 d1 HSM
      go_wp2_with fail
      refine HCK.out.mono ?_
      rintro e y5 ⟨v5, rfl, ht5, hy5⟩
      rw [HG.out] at ht5
      obtain rfl := told_nil ht5
      have H5 : Hid (Below w.heap.size w y5) := (HQ.out y5 (btrG HY4.out hy5)).2.2.2
      clear ht5 hy5 e0 e1 HCK
      go_wp2
      go_ret
      exact ⟨rfl, H5.out⟩
  · clear htd hE hs
    go_wp2
    go_ret
    exact ⟨rfl, HY2.out.2⟩
end Go.Proofs.YtghbekpilhnkfaaDoor.Gt
