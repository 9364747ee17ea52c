/- the law WholeTexts. -/
import Derived.Test.YthgmhhlgjooeaaaGreatDoorGxA
import Derived.Test.YthgmhhlgjooeaaaGreatDoorGxB
import Derived.Test.YthgmhhlgjooeaaaGreatDoorGxM
import Derived.Test.YthgmhhlgjooeaaaGreatDoorGuB
import Derived.Test.YthgmhhlgjooeaaaGreatDoorGtK
import Derived.Test.YthgmhhlgjooeaaaGreatDoorCheck
import Derived.Test.YthgmhhlgjooeaaaGreatDoorSameG
import Derived.Test.YthgmhhlgjooeaaaGreatDoorErrI
import Derived.Test.YthgmhhlgjooeaaaGreatDoorErrF
import Derived.Test.YthgmhhlgjooeaaaGreatDoorSeen
import Derived.Lib.ItoaLen
import Derived.BigQuiet
namespace Go.Proofs.YthgmhhlgjooeaaaGreatDoor.Gt
open Go Go.Lib Go.RowKit Go.Extern Hi

attribute [local go_sem] Oper.semAt_some

theorem txt_short : ∀ (L : List PR), (∀ p ∈ L, RowOk p) → (txt L).length ≤ 201 * L.length
  | [], _ => Nat.zero_le _
  | p :: L, h => by
    have h1 := txt_short L fun q hq => h q (List.mem_cons_of_mem _ hq)
    obtain ⟨_, _, h2, h3⟩ := h p List.mem_cons_self
    have h4 := numL_size p.2 h2
    rw [txt_cons, List.length_append, List.length_cons]
    unfold rowL
    rw [List.length_append, List.length_append]
    simp only [List.length_cons, List.length_nil]
    omega
theorem prL_short {N : Nat} {xs : List Arc3} (h : GOk N xs) (hx : xs.length ≤ 100) : (prL N xs).length ≤ 30000 := by
  have h1 := txt_short _ (prR_ok h)
  rw [prR_len] at h1
  unfold prL
  omega
theorem told_nilX {w : World} {v : Value} (h : IsTold w (0, []) v) : v = .nilIface := by
  rcases h with ⟨_, e⟩ | ⟨h1, _⟩
  · exact e
  · exact absurd rfl h1
/-- what the loop keeps. -/
structure TL (W : World) (N : Int) (n zc B : Nat) (lo : Option Addr) (lc : Nat) (ys : List Arc3) (wx : World) : Prop where
  box : wx.heap[zc]? = some (.cells #[.int .i64 N, .slice lo n lc] 24)
  row : wx.ownsRow B 50 3 (.slice lo n lc) n (flatA ys)
  len : ys.length = n
  sep : ∀ a, lo = some a → a.block < zc
  base : W.heap.size ≤ B
  zbase : W.heap.size ≤ zc
  below : Below W.heap.size W wx
theorem TL.keep {W : World} {N : Int} {n zc B : Nat} {lo : Option Addr} {lc : Nat} {ys : List Arc3} {wx wy : World} (h : TL W N n zc B lo lc ys wx) (hb : Below wx.heap.size wx wy) : TL W N n zc B lo lc ys wy :=
  ⟨(hb.block _ (Array.getElem?_eq_some_iff.1 h.box).1).trans h.box, rowA_keep h.row (fun g _ hg => hb.block g hg), h.len, h.sep, h.base, h.zbase, btrG h.below hb⟩
theorem TL.arcs {W : World} {N : Int} {n zc B : Nat} {lo : Option Addr} {lc : Nat} {ys : List Arc3} {wx : World} (h : TL W N n zc B lo lc ys wx) : HasArcs wx (.slice lo ys.length lc) ys := by
  have h1 := h.row
  rw [← h.len] at h1
  exact arcs_of_row h1
theorem TL.set {W : World} {N : Int} {n zc B : Nat} {g : Nat} {lc : Nat} {ys : List Arc3} {wx : World} (h : TL W N n zc B (some ⟨g, 0, none⟩) lc ys wx) (i : Nat) :
    TL W N n zc B (some ⟨g, 0, none⟩) lc (ys.set i (0, 0, 0)) (((wx.setCell ⟨g, i * 3, none⟩ (.int .i64 0)).setCell ⟨g, i * 3 + 1, none⟩ (.int .i64 0)).setCell ⟨g, i * 3 + 2, none⟩ (.int .i64 0)) := by
  have hs := h.sep _ rfl
  have hg : B ≤ g := by
    rcases h.row.2 with ⟨e, _⟩ | ⟨g', cap', cur, e, hB, _⟩
    · injection e with e1; cases e1
    · injection e with e1 e2 e3
      injection e1 with e1
      injection e1 with e1
      omega
  have hb := h.base
  have hr := h.row
  rw [← h.len] at hr
  have hr2 := own_set (i := i) hr
  rw [h.len] at hr2
  refine ⟨?_, hr2, by rw [List.length_set]; exact h.len, h.sep, h.base, h.zbase, ?_⟩
  · rw [heap_setCell_other _ _ _ _ (by show zc ≠ g; simp at hs; omega), heap_setCell_other _ _ _ _ (by show zc ≠ g; simp at hs; omega), heap_setCell_other _ _ _ _ (by show zc ≠ g; simp at hs; omega)]
    exact h.box
  · exact ((h.below.setCell (p := ⟨g, i * 3, none⟩) (by show W.heap.size ≤ g; omega) _).setCell (p := ⟨g, i * 3 + 1, none⟩) (by show W.heap.size ≤ g; omega) _).setCell (p := ⟨g, i * 3 + 2, none⟩) (by show W.heap.size ≤ g; omega) _

theorem TL.touch {W : World} {N : Int} {n zc zp B : Nat} {lo : Option Addr} {lc : Nat} {ys : List Arc3} {wx wy : World} (h : TL W N n zc B lo lc ys wx) (ht : Touch zp wx wy) (hz : zc < zp) : TL W N n zc B lo lc ys wy := by
  have hzb := h.zbase
  have hsz := h.below.size
  refine ⟨(ht.block _ (Array.getElem?_eq_some_iff.1 h.box).1 (by omega)).trans h.box, ⟨h.row.1, ?_⟩, h.len, h.sep, h.base, h.zbase, h.below.trans ⟨ht.os, ht.tape, ht.output, ht.size, fun k hk => ht.block k (by omega) (by omega)⟩⟩
  rcases h.row.2 with e | ⟨g, cap', cur, e, hB, hg, r⟩
  · exact Or.inl e
  · have hs := h.sep
    injection e with e1 e2 e3
    have hgz := hs _ e1
    simp at hgz
    exact Or.inr ⟨g, cap', cur, by rw [e1, e3], hB, (ht.block g (Array.getElem?_eq_some_iff.1 hg).1 (by omega)).trans hg, r⟩

set_option maxRecDepth 100000 in
set_option maxHeartbeats 16000000 in
theorem wtexts_calls (N : Int) (ao : Option Addr) (cap : Nat) (xs : List Arc3) (w : World) (hl : HasArcs w (.slice ao xs.length cap) xs) (hm : xs.length ≤ maxLen) (hT : TabW w) (hH : HasType w) :
    Calls Tryz.prog 3 #[.agg #[.int .i64 N, .slice ao xs.length cap]] w fun e w' => e = .returned (.bool true) ∧ Below w.heap.size w w' := by
  obtain ⟨z, hz⟩ : ∃ z, w.heap.size = z := ⟨_, rfl⟩
  obtain ⟨W1, hW1⟩ : ∃ W1, w.alloc (.cells #[.int .i64 N, .slice ao xs.length cap] 24) = W1 := ⟨_, rfl⟩
  have HW1 : Hid (w.alloc (.cells #[.int .i64 N, .slice ao xs.length cap] 24) = W1) := hW1
  have n0 : W1.heap[z]? = some (.cells #[.int .i64 N, .slice ao xs.length cap] 24) := by rw [← hW1, ← hz]; exact heap_newG _ _
  have hb1 : Below w.heap.size w W1 := by rw [← hW1]; exact (Below.refl _ _).alloc (Nat.le_refl _) _
  have hzs : z < W1.heap.size := (Array.getElem?_eq_some_iff.1 n0).1
  have HK1 : Hid (∀ wx, Below W1.heap.size W1 wx → wx.cell? ⟨z, 0, none⟩ = some (.int .i64 N) ∧ wx.cell? ⟨z, 1, none⟩ = some (.slice ao xs.length cap) ∧ HasArcs wx (.slice ao xs.length cap) xs ∧ TabW wx ∧ HasType wx ∧ Below w.heap.size w wx) := fun wx hx => by
    have m := (hx.block _ (Array.getElem?_eq_some_iff.1 n0).1).trans n0
    have hb := hb1.trans (hx.mono hb1.size)
    exact ⟨by simp [World.cell?, m], by simp [World.cell?, m], hl.keep hb, hT.keep hb hT.lt, hH.keep hb hH.pos, hb⟩
  have HC1 : Hid (Calls Tryz.prog 4 #[.agg #[.int .i64 (-1), .slice none 0 0]] W1 fun e w' => ∃ v, e = .returned v ∧ IsTold w' (graphErr (-1) []) v ∧ Below W1.heap.size W1 w') := check_calls (-1) none 0 [] W1 ⟨none, 0, rfl, fun j p hj => by simp at hj⟩ (Nat.zero_le _)
  clear hW1 n0 hb1 hT hH hl
  go_enter Tryz.func3, Tryz.ntmps3
  go_upto_region 1 with fail
  rw [HW1.out]
  try rw [hz]
  go_wp2_with fail
  refine HC1.out.mono ?_
  rintro e y1 ⟨v1, rfl, ht1, hy1⟩
  have he1 : graphErr (-1) [] = (9, []) := by unfold graphErr; rw [if_pos (Or.inl (by decide))]
  rw [he1] at ht1
  have hi1 : IsErr y1 (.iface 29 (.int .i64 9)) [] v1 := by
    rcases ht1 with ⟨e, _⟩ | ⟨_, h⟩
    · exact absurd (congrArg Prod.fst e) (by decide)
    · exact h
  have HIS : Hid (Calls Tryz.prog 5 #[v1, .iface 29 (.int .i64 9)] y1 fun ev w' => ev = .returned (.bool ((9 : Int) == 9)) ∧ w' = y1) := errorsIs_num [] 9 9 v1 y1 hi1
  have HY1 : Hid (Below W1.heap.size W1 y1) := hy1
  obtain rfl : v1 = .iface 29 (.int .i64 9) := hi1
  obtain ⟨c0, c1, hA1, hT1, _, _⟩ := HK1.out y1 hy1
  have HPR : Hid (Calls Tryz.prog 6 #[.agg #[.int .i64 N, .slice ao xs.length cap]] y1 (PrA N xs y1)) := print_calls N ao cap xs y1 hA1 hm hT1
  clear hy1 HC1 ht1 he1 hA1 hT1
  go_wp2_with fail
  refine HIS.out.mono ?_
  rintro e y2 ⟨rfl, rfl⟩
  clear HIS
  by_cases hn : xs.length ≤ 100
  · have i1 : decide ((xs.length : Int) > 100) = false := by simp; omega
    go_wp2_with fail
    refine HPR.out.mono ?_
    rintro e y3 ⟨s, v, rfl, hs, htd, hy3⟩
    have hb3 : Below W1.heap.size W1 y3 := btrG HY1.out hy3
    have HY3 : Hid (Below W1.heap.size W1 y3) := hb3
    clear hy3 HPR c0 c1
    obtain ⟨c0, c1, hA3, hT3, hH3, hb03⟩ := HK1.out y3 hb3
    clear hb3
    rcases told_shape htd with ⟨hE, rfl⟩ | ⟨hE, Tu, uu, rfl⟩
    · clear htd
      obtain ⟨n, rfl, hg⟩ := graph_iff.1 hE
      have hsl : bs s = prL n xs := by rw [hs]; unfold prS; rw [if_pos hE]
      have hln := prL_short hg hn
      have hpp := ps_pr hg (by omega)
      rw [← hsl] at hpp
      have HPP : Hid (psE (bs s) = (0, []) ∧ psG (bs s) = (n, xs)) := hpp
      have HG : Hid (graphErr (n : Int) xs = (0, [])) := hE
      have HPA : Hid (Calls Tryz.prog 7 #[.string s] y3 (PsA (bs s) y3)) := parse_calls s y3 (by rw [← bs_len, hsl]; omega)
      clear hsl hs hE hg hpp hln hA3 hT3 hH3 hb03
      go_wp2_with fail
      refine HPA.out.mono ?_
      rintro e y4 ⟨u, bo, bc, rfl, htd, hy4, hown⟩
      rw [HPP.out.1] at htd
      rw [HPP.out.2] at hown ⊢
      simp only at hown ⊢
      obtain rfl := told_nilX htd
      have hA := arcs_of hown
      obtain ⟨z1, hz1⟩ : ∃ z1, y4.heap.size = z1 := ⟨_, rfl⟩
      obtain ⟨W5, hW5⟩ : ∃ W, y4.alloc (.cells #[.int .i64 (n : Int), .slice bo xs.length bc] 24) = W := ⟨_, rfl⟩
      have HW5 : Hid (y4.alloc (.cells #[.int .i64 (n : Int), .slice bo xs.length bc] 24) = W5) := hW5
      have m5 : W5.heap[z1]? = some (.cells #[.int .i64 (n : Int), .slice bo xs.length bc] 24) := by rw [← hW5, ← hz1]; exact heap_newG _ _
      have hb5 : Below y4.heap.size y4 W5 := by rw [← hW5]; exact (Below.refl _ _).alloc (Nat.le_refl _) _
      have h15 : Below W1.heap.size W1 W5 := btrG (btrG HY3.out hy4) hb5
      have HQ5 : Hid (∀ wx, Below W5.heap.size W5 wx → wx.cell? ⟨z1, 0, none⟩ = some (.int .i64 (n : Int)) ∧ wx.cell? ⟨z1, 1, none⟩ = some (.slice bo xs.length bc) ∧ HasArcs wx (.slice bo xs.length bc) xs ∧ Below W1.heap.size W1 wx) := fun wx hx => by
        have m := (hx.block _ (Array.getElem?_eq_some_iff.1 m5).1).trans m5
        exact ⟨by simp [World.cell?, m], by simp [World.cell?, m], (hA.keep hb5).keep hx, btrG h15 hx⟩
      have HOF : Hid (Calls Tryz.prog 8 #[.agg #[.int .i64 (n : Int), .slice bo xs.length bc]] W5 fun e w' => ∃ lo k lc, e = .returned (.tuple #[.agg #[.int .i64 (n : Int), .slice lo k lc], .nilIface]) ∧ HasArcs w' (.slice lo k lc) (normA xs) ∧ Below W5.heap.size W5 w') := of_good (hA.keep hb5) HG.out
      obtain ⟨d0, d1, _, _⟩ := HQ5.out W5 (Below.refl _ _)
      clear htd hy4 hown hA hW5 m5 hb5 h15 HPA c0 c1
      go_upto_region 9 with fail
      rw [HW5.out]
      try rw [hz1]
      go_wp2_with fail
      refine HOF.out.mono ?_
      rintro e y6 ⟨co, k, cc, rfl, hAn, hy6⟩
      obtain rfl := arcs_len hAn
      obtain ⟨z2, hz2⟩ : ∃ z1, y6.heap.size = z1 := ⟨_, rfl⟩
      obtain ⟨ms, hms⟩ : ∃ m, normA xs = m := ⟨_, rfl⟩
      rw [hms] at hAn ⊢
      obtain ⟨W7, hW7⟩ : ∃ W, y6.alloc (.cells #[.int .i64 (n : Int), .slice co ms.length cc] 24) = W := ⟨_, rfl⟩
      have HW7 : Hid (y6.alloc (.cells #[.int .i64 (n : Int), .slice co ms.length cc] 24) = W7) := hW7
      have m7 : W7.heap[z2]? = some (.cells #[.int .i64 (n : Int), .slice co ms.length cc] 24) := by rw [← hW7, ← hz2]; exact heap_newG _ _
      have hb7 : Below y6.heap.size y6 W7 := by rw [← hW7]; exact (Below.refl _ _).alloc (Nat.le_refl _) _
      have h57 : Below W5.heap.size W5 W7 := btrG hy6 hb7
      have HQ7 : Hid (∀ wx, Below W7.heap.size W7 wx → wx.cell? ⟨z, 0, none⟩ = some (.int .i64 (n : Int)) ∧ wx.cell? ⟨z, 1, none⟩ = some (.slice ao xs.length cap) ∧ wx.cell? ⟨z1, 0, none⟩ = some (.int .i64 (n : Int)) ∧ wx.cell? ⟨z1, 1, none⟩ = some (.slice bo xs.length bc) ∧ wx.cell? ⟨z2, 0, none⟩ = some (.int .i64 (n : Int)) ∧ wx.cell? ⟨z2, 1, none⟩ = some (.slice co ms.length cc) ∧ HasArcs wx (.slice ao xs.length cap) xs ∧ HasArcs wx (.slice bo xs.length bc) xs ∧ HasArcs wx (.slice co ms.length cc) ms ∧ Below w.heap.size w wx) := fun wx hx => by
        have m := (hx.block _ (Array.getElem?_eq_some_iff.1 m7).1).trans m7
        obtain ⟨q0, q1, q2, q3⟩ := HQ5.out wx (btrG h57 hx)
        obtain ⟨p0, p1, p2, _, _, p3⟩ := HK1.out wx q3
        exact ⟨p0, p1, q0, q1, by simp [World.cell?, m], by simp [World.cell?, m], p2, q2, (hAn.keep hb7).keep hx, p3⟩
      have hnl := normA_len xs
      rw [hms] at hnl
      have HSM : Hid (∀ wx, Below W7.heap.size W7 wx → Calls Tryz.prog 9 #[.agg #[.int .i64 (n : Int), .slice bo xs.length bc], .agg #[.int .i64 (n : Int), .slice ao xs.length cap]] wx fun e w' => e = .returned (.bool true) ∧ Below wx.heap.size wx w') := fun wx hx => by
        obtain ⟨_, _, _, _, _, _, p, q, _, _⟩ := HQ7.out wx hx
        exact same_yes n _ _ _ _ _ _ xs wx q p hm
      obtain ⟨gs, hgs⟩ : ∃ b, (fewB n xs 10 && decide (xs.length ≤ 200)) = b := ⟨_, rfl⟩
      have HSG : Hid (∀ wx, Below W7.heap.size W7 wx → Calls Tryz.prog 10 #[.agg #[.int .i64 (n : Int), .slice ao xs.length cap], .int .i64 10] wx fun e w' => e = .returned (.bool gs) ∧ Below wx.heap.size wx w') := fun wx hx => by
        obtain ⟨_, _, _, _, _, _, p, _, _, _⟩ := HQ7.out wx hx
        have h := small_calls n ao cap xs wx p hm
        rw [hgs] at h
        exact h
      obtain ⟨c0, c1, d0, d1, f0, f1, _, _, _, _⟩ := HQ7.out W7 (Below.refl _ _)
      have hFin : gs = true → (n ≤ 10 ∧ (fewB n ms 10 && decide (ms.length ≤ 200)) = true) := fun e => by
        rw [← hgs] at e
        simp only [Bool.and_eq_true, decide_eq_true_eq, fewB] at e
        refine ⟨by omega, ?_⟩
        simp only [Bool.and_eq_true, decide_eq_true_eq, fewB]
        exact ⟨⟨by rw [← hms]; exact good_norm HG.out, by omega, by omega⟩, by omega⟩
      have HFN : Hid (gs = true → (n ≤ 10 ∧ (fewB n ms 10 && decide (ms.length ≤ 200)) = true)) := hFin
      have HMS : Hid (normA xs = ms ∧ ms.length ≤ xs.length) := ⟨hms, hnl⟩
      clear hAn hy6 hW7 m7 hb7 h57 HOF hFin hgs hms hnl
      go_upto_region 10 with fail
      rw [HW7.out]
      try rw [hz2]
      cases gs with
      | false =>
        have HS7 : Hid (∀ wx, Below W7.heap.size W7 wx → (fun w' : World => w'.cell? ⟨z, 0, none⟩ = some (.int .i64 (n : Int)) ∧ w'.cell? ⟨z, 1, none⟩ = some (.slice ao xs.length cap) ∧ w'.cell? ⟨z1, 0, none⟩ = some (.int .i64 (n : Int)) ∧ w'.cell? ⟨z1, 1, none⟩ = some (.slice bo xs.length bc) ∧ Hid (Below W7.heap.size W7 w')) wx) := fun wx hx => by
          obtain ⟨p0, p1, p2, p3, _⟩ := HQ7.out wx hx
          exact ⟨p0, p1, p2, p3, hx⟩
        have HSM1 : Hid (∀ wx, (fun w' : World => w'.cell? ⟨z, 0, none⟩ = some (.int .i64 (n : Int)) ∧ w'.cell? ⟨z, 1, none⟩ = some (.slice ao xs.length cap) ∧ w'.cell? ⟨z1, 0, none⟩ = some (.int .i64 (n : Int)) ∧ w'.cell? ⟨z1, 1, none⟩ = some (.slice bo xs.length bc) ∧ Hid (Below W7.heap.size W7 w')) wx → Calls Tryz.prog 9 #[.agg #[.int .i64 (n : Int), .slice bo xs.length bc], .agg #[.int .i64 (n : Int), .slice ao xs.length cap]] wx fun e w' => e = .returned (.bool true) ∧ Below wx.heap.size wx w' ∧ (fun w' : World => w'.cell? ⟨z, 0, none⟩ = some (.int .i64 (n : Int)) ∧ w'.cell? ⟨z, 1, none⟩ = some (.slice ao xs.length cap) ∧ w'.cell? ⟨z1, 0, none⟩ = some (.int .i64 (n : Int)) ∧ w'.cell? ⟨z1, 1, none⟩ = some (.slice bo xs.length bc) ∧ Hid (Below W7.heap.size W7 w')) w') := fun wx hSx => by
          have hx := hSx.2.2.2.2.out
          refine (HSM.out wx hx).mono ?_
          rintro e w' ⟨rfl, hb⟩
          exact ⟨rfl, hb, HS7.out w' (btrG hx hb)⟩
        have HSG1 : Hid (∀ wx, (fun w' : World => w'.cell? ⟨z, 0, none⟩ = some (.int .i64 (n : Int)) ∧ w'.cell? ⟨z, 1, none⟩ = some (.slice ao xs.length cap) ∧ w'.cell? ⟨z1, 0, none⟩ = some (.int .i64 (n : Int)) ∧ w'.cell? ⟨z1, 1, none⟩ = some (.slice bo xs.length bc) ∧ Hid (Below W7.heap.size W7 w')) wx → Calls Tryz.prog 10 #[.agg #[.int .i64 (n : Int), .slice ao xs.length cap], .int .i64 10] wx fun e w' => e = .returned (.bool false) ∧ Below wx.heap.size wx w' ∧ (fun w' : World => w'.cell? ⟨z, 0, none⟩ = some (.int .i64 (n : Int)) ∧ w'.cell? ⟨z, 1, none⟩ = some (.slice ao xs.length cap) ∧ w'.cell? ⟨z1, 0, none⟩ = some (.int .i64 (n : Int)) ∧ w'.cell? ⟨z1, 1, none⟩ = some (.slice bo xs.length bc) ∧ Hid (Below W7.heap.size W7 w')) w') := fun wx hSx => by
          have hx := hSx.2.2.2.2.out
          refine (HSG.out wx hx).mono ?_
          rintro e w' ⟨rfl, hb⟩
          exact ⟨rfl, hb, HS7.out w' (btrG hx hb)⟩
        refine wp_region_M (S := (fun w' : World => w'.cell? ⟨z, 0, none⟩ = some (.int .i64 (n : Int)) ∧ w'.cell? ⟨z, 1, none⟩ = some (.slice ao xs.length cap) ∧ w'.cell? ⟨z1, 0, none⟩ = some (.int .i64 (n : Int)) ∧ w'.cell? ⟨z1, 1, none⟩ = some (.slice bo xs.length bc) ∧ Hid (Below W7.heap.size W7 w'))) (by kernel_rfl) (HS7.out _ (Below.refl _ _).drew) ?_
        refine wpAnyM_take (i := 0) (oi := { dst := Option.some 41, op := Op.move (Operand.tmp 7), type := 26, pos := "top02.go:52", after := #[], guard := Option.none }) (v := ?vd36z0) rfl (by kernel_rfl) (by kernel_rfl) (by kernel_rfl) (fun _ _ _ h => h) (YieldsM.of_if (Or.inl ⟨by rfl, ?hd36z0⟩)) ?rd36z0
        case hd36z0 => ((intro wz hSw; (try dsimp only at hSw); go_simp); try (with_reducible rfl))
        try simp only [Act.put, List.setIfInBounds_toArray, List.set_cons_zero, List.set_cons_succ]
        refine wpAnyM_take (i := 1) (oi := { dst := Option.some 42, op := Op.binOp BinOp.eql 26 (Operand.tmp 41) (Operand.const Value.nilIface) 26, type := 4, pos := "top02.go:52", after := #[{ on := 0, ground := Ground.data }], guard := Option.none }) (v := ?vd37z1) rfl (by kernel_rfl) (by kernel_rfl) (by kernel_rfl) (fun _ _ _ h => h) (YieldsM.of_if (Or.inl ⟨by rfl, ?hd37z1⟩)) ?rd37z1
        case hd37z1 => ((intro wz hSw; (try dsimp only at hSw); go_simp); try (with_reducible rfl))
        try simp only [Act.put, List.setIfInBounds_toArray, List.set_cons_zero, List.set_cons_succ]
        refine wpAnyM_take (i := 2) (oi := { dst := Option.some 43, op := Op.move (Operand.tmp 42), type := 4, pos := "top02.go:52", after := #[{ on := 1, ground := Ground.data }], guard := Option.none }) (v := ?vd38z2) rfl (by kernel_rfl) (by kernel_rfl) (by kernel_rfl) (fun _ _ _ h => h) (YieldsM.of_if (Or.inl ⟨by rfl, ?hd38z2⟩)) ?rd38z2
        case hd38z2 => ((intro wz hSw; (try dsimp only at hSw); go_simp); try (with_reducible rfl))
        try simp only [Act.put, List.setIfInBounds_toArray, List.set_cons_zero, List.set_cons_succ]
        refine wpAnyM_take (i := 3) (oi := { dst := Option.some 44, op := Op.move (Operand.tmp 9), type := 26, pos := "top02.go:52", after := #[{ on := 2, ground := Ground.guard }], guard := Option.some (2, Bool.true) }) (v := ?vd39z3) rfl (by kernel_rfl) (by kernel_rfl) (by kernel_rfl) (fun _ _ _ h => h) (YieldsM.of_if (Or.inl ⟨by rfl, ?hd39z3⟩)) ?rd39z3
        case hd39z3 => ((intro wz hSw; (try dsimp only at hSw); go_simp); try (with_reducible rfl))
        try simp only [Act.put, List.setIfInBounds_toArray, List.set_cons_zero, List.set_cons_succ]
        refine wpAnyM_take (i := 4) (oi := { dst := Option.some 45, op := Op.binOp BinOp.eql 26 (Operand.tmp 44) (Operand.const Value.nilIface) 26, type := 4, pos := "top02.go:52", after := #[{ on := 3, ground := Ground.data }, { on := 2, ground := Ground.guard }], guard := Option.some (2, Bool.true) }) (v := ?vd40z4) rfl (by kernel_rfl) (by kernel_rfl) (by kernel_rfl) (fun _ _ _ h => h) (YieldsM.of_if (Or.inl ⟨by rfl, ?hd40z4⟩)) ?rd40z4
        case hd40z4 => ((intro wz hSw; (try dsimp only at hSw); go_simp); try (with_reducible rfl))
        try simp only [Act.put, List.setIfInBounds_toArray, List.set_cons_zero, List.set_cons_succ]
        refine wpAnyM_take (i := 5) (oi := { dst := Option.some 46, op := Op.pick (Operand.tmp 43) (Operand.tmp 45) (Operand.const (Value.bool Bool.false)), type := 4, pos := "top02.go:52", after := #[{ on := 2, ground := Ground.data }, { on := 4, ground := Ground.data }], guard := Option.none }) (v := ?vd41z5) rfl (by kernel_rfl) (by kernel_rfl) (by kernel_rfl) (fun _ _ _ h => h) (YieldsM.of_if (Or.inl ⟨by rfl, ?hd41z5⟩)) ?rd41z5
        case hd41z5 => ((intro wz hSw; (try dsimp only at hSw); go_simp); try (with_reducible rfl))
        try simp only [Act.put, List.setIfInBounds_toArray, List.set_cons_zero, List.set_cons_succ]
        refine wpAnyM_take (i := 6) (oi := { dst := Option.some 47, op := Op.move (Operand.tmp 46), type := 4, pos := "top02.go:52", after := #[{ on := 5, ground := Ground.data }, { on := 2, ground := Ground.chain }], guard := Option.none }) (v := ?vd42z6) rfl (by kernel_rfl) (by kernel_rfl) (by kernel_rfl) (fun _ _ _ h => h) (YieldsM.of_if (Or.inl ⟨by rfl, ?hd42z6⟩)) ?rd42z6
        case hd42z6 => ((intro wz hSw; (try dsimp only at hSw); go_simp); try (with_reducible rfl))
        try simp only [Act.put, List.setIfInBounds_toArray, List.set_cons_zero, List.set_cons_succ]
        refine wpAnyM_take (i := 7) (oi := { dst := Option.some 48, op := Op.load 24 (Operand.tmp 6), type := 24, pos := "top02.go:52", after := #[{ on := 6, ground := Ground.guard }], guard := Option.some (6, Bool.true) }) (v := ?vd43z7) rfl (by kernel_rfl) (by kernel_rfl) (by kernel_rfl) (fun _ _ _ h => h) (YieldsM.of_if (Or.inl ⟨by rfl, ?hd43z7⟩)) ?rd43z7
        case hd43z7 => ((intro wz hSw; (try dsimp only at hSw); go_simp); try (with_reducible rfl))
        try simp only [Act.put, List.setIfInBounds_toArray, List.set_cons_zero, List.set_cons_succ]
        refine wpAnyM_take (i := 8) (oi := { dst := Option.some 49, op := Op.load 24 (Operand.tmp 1), type := 24, pos := "top02.go:52", after := #[{ on := 6, ground := Ground.guard }], guard := Option.some (6, Bool.true) }) (v := ?vd44z8) rfl (by kernel_rfl) (by kernel_rfl) (by kernel_rfl) (fun _ _ _ h => h) (YieldsM.of_if (Or.inl ⟨by rfl, ?hd44z8⟩)) ?rd44z8
        case hd44z8 => ((intro wz hSw; (try dsimp only at hSw); go_simp); try (with_reducible rfl))
        try simp only [Act.put, List.setIfInBounds_toArray, List.set_cons_zero, List.set_cons_succ]
        refine wpAnyM_take (i := 9) (oi := { dst := Option.some 50, op := Op.call { callee := Callee.value (Operand.func 9), args := #[Operand.tmp 48, Operand.tmp 49], argTypes := #[24, 24] }, type := 4, pos := "top02.go:52", after := #[{ on := 7, ground := Ground.data }, { on := 8, ground := Ground.data }, { on := 6, ground := Ground.chain }, { on := 6, ground := Ground.guard }], guard := Option.some (6, Bool.true) }) (v := (.bool true)) rfl (by kernel_rfl) (by kernel_rfl) (by kernel_rfl) (fun _ _ _ h => h) (YieldsM.of_call (f := 9) (by rfl) (fun _ _ => by kernel_rfl) (HSM1.out)) ?_
        try simp only [Act.put, List.setIfInBounds_toArray, List.set_cons_zero, List.set_cons_succ]
        refine wpAnyM_take (i := 10) (oi := { dst := Option.some 51, op := Op.pick (Operand.tmp 47) (Operand.tmp 50) (Operand.const (Value.bool Bool.false)), type := 4, pos := "top02.go:52", after := #[{ on := 6, ground := Ground.data }, { on := 9, ground := Ground.data }], guard := Option.none }) (v := ?vd45z10) rfl (by kernel_rfl) (by kernel_rfl) (by kernel_rfl) (fun _ _ _ h => h) (YieldsM.of_if (Or.inl ⟨by rfl, ?hd45z10⟩)) ?rd45z10
        case hd45z10 => ((intro wz hSw; (try dsimp only at hSw); go_simp); try (with_reducible rfl))
        try simp only [Act.put, List.setIfInBounds_toArray, List.set_cons_zero, List.set_cons_succ]
        refine wpAnyM_take (i := 11) (oi := { dst := Option.some 52, op := Op.move (Operand.tmp 51), type := 4, pos := "top02.go:52", after := #[{ on := 10, ground := Ground.data }, { on := 9, ground := Ground.chain }], guard := Option.none }) (v := ?vd46z11) rfl (by kernel_rfl) (by kernel_rfl) (by kernel_rfl) (fun _ _ _ h => h) (YieldsM.of_if (Or.inl ⟨by rfl, ?hd46z11⟩)) ?rd46z11
        case hd46z11 => ((intro wz hSw; (try dsimp only at hSw); go_simp); try (with_reducible rfl))
        try simp only [Act.put, List.setIfInBounds_toArray, List.set_cons_zero, List.set_cons_succ]
        refine wpAnyM_take (i := 12) (oi := { dst := Option.some 53, op := Op.load 24 (Operand.tmp 1), type := 24, pos := "top02.go:52", after := #[{ on := 11, ground := Ground.guard }], guard := Option.some (11, Bool.true) }) (v := ?vd47z12) rfl (by kernel_rfl) (by kernel_rfl) (by kernel_rfl) (fun _ _ _ h => h) (YieldsM.of_if (Or.inl ⟨by rfl, ?hd47z12⟩)) ?rd47z12
        case hd47z12 => ((intro wz hSw; (try dsimp only at hSw); go_simp); try (with_reducible rfl))
        try simp only [Act.put, List.setIfInBounds_toArray, List.set_cons_zero, List.set_cons_succ]
        refine wpAnyM_take (i := 13) (oi := { dst := Option.some 54, op := Op.call { callee := Callee.value (Operand.func 10), args := #[Operand.tmp 53, Operand.const (Value.int IntKind.i64 10)], argTypes := #[24, 3] }, type := 4, pos := "top02.go:52", after := #[{ on := 12, ground := Ground.data }, { on := 11, ground := Ground.chain }, { on := 11, ground := Ground.guard }], guard := Option.some (11, Bool.true) }) (v := (.bool false)) rfl (by kernel_rfl) (by kernel_rfl) (by kernel_rfl) (fun _ _ _ h => h) (YieldsM.of_call (f := 10) (by rfl) (fun _ _ => by kernel_rfl) (HSG1.out)) ?_
        try simp only [Act.put, List.setIfInBounds_toArray, List.set_cons_zero, List.set_cons_succ]
        refine wpAnyM_take (i := 14) (oi := { dst := Option.some 55, op := Op.unOp UnOp.not 4 (Operand.tmp 54), type := 4, pos := "top02.go:52", after := #[{ on := 13, ground := Ground.data }, { on := 11, ground := Ground.guard }], guard := Option.some (11, Bool.true) }) (v := ?vd48z14) rfl (by kernel_rfl) (by kernel_rfl) (by kernel_rfl) (fun _ _ _ h => h) (YieldsM.of_if (Or.inl ⟨by rfl, ?hd48z14⟩)) ?rd48z14
        case hd48z14 => ((intro wz hSw; (try dsimp only at hSw); go_simp); try (with_reducible rfl))
        try simp only [Act.put, List.setIfInBounds_toArray, List.set_cons_zero, List.set_cons_succ]
        refine wpAnyM_take (i := 15) (oi := { dst := Option.some 56, op := Op.move (Operand.tmp 55), type := 4, pos := "top02.go:52", after := #[{ on := 14, ground := Ground.data }, { on := 13, ground := Ground.chain }, { on := 11, ground := Ground.guard }], guard := Option.some (11, Bool.true) }) (v := ?vd49z15) rfl (by kernel_rfl) (by kernel_rfl) (by kernel_rfl) (fun _ _ _ h => h) (YieldsM.of_if (Or.inl ⟨by rfl, ?hd49z15⟩)) ?rd49z15
        case hd49z15 => ((intro wz hSw; (try dsimp only at hSw); go_simp); try (with_reducible rfl))
        try simp only [Act.put, List.setIfInBounds_toArray, List.set_cons_zero, List.set_cons_succ]
        refine wpAnyM_take (i := 16) (oi := { dst := Option.some 57, op := Op.load 24 (Operand.tmp 8), type := 24, pos := "top02.go:52", after := #[{ on := 15, ground := Ground.guard }], guard := Option.some (15, Bool.false) }) (v := undef) rfl (by kernel_rfl) (by kernel_rfl) (by kernel_rfl) (fun _ _ _ h => h) (YieldsM.of_if (Or.inr ⟨by rfl, rfl⟩)) ?_
        try simp only [Act.put, List.setIfInBounds_toArray, List.set_cons_zero, List.set_cons_succ]
        refine wpAnyM_take (i := 17) (oi := { dst := Option.some 58, op := Op.call { callee := Callee.value (Operand.func 10), args := #[Operand.tmp 57, Operand.const (Value.int IntKind.i64 10)], argTypes := #[24, 3] }, type := 4, pos := "top02.go:52", after := #[{ on := 16, ground := Ground.data }, { on := 15, ground := Ground.chain }, { on := 15, ground := Ground.guard }], guard := Option.some (15, Bool.false) }) (v := undef) rfl (by kernel_rfl) (by kernel_rfl) (by kernel_rfl) (fun _ _ _ h => h) (YieldsM.of_if (Or.inr ⟨by rfl, rfl⟩)) ?_
        try simp only [Act.put, List.setIfInBounds_toArray, List.set_cons_zero, List.set_cons_succ]
        refine wpAnyM_take (i := 18) (oi := { dst := Option.some 59, op := Op.move (Operand.tmp 58), type := 4, pos := "top02.go:52", after := #[{ on := 17, ground := Ground.data }, { on := 17, ground := Ground.chain }, { on := 15, ground := Ground.guard }], guard := Option.some (15, Bool.false) }) (v := undef) rfl (by kernel_rfl) (by kernel_rfl) (by kernel_rfl) (fun _ _ _ h => h) (YieldsM.of_if (Or.inr ⟨by rfl, rfl⟩)) ?_
        try simp only [Act.put, List.setIfInBounds_toArray, List.set_cons_zero, List.set_cons_succ]
        refine wpAnyM_take (i := 19) (oi := { dst := Option.some 60, op := Op.load 24 (Operand.tmp 8), type := 24, pos := "top02.go:52", after := #[{ on := 18, ground := Ground.guard }], guard := Option.some (18, Bool.true) }) (v := undef) rfl (by kernel_rfl) (by kernel_rfl) (by kernel_rfl) (fun _ _ _ h => h) (YieldsM.of_if (Or.inr ⟨by rfl, rfl⟩)) ?_
        try simp only [Act.put, List.setIfInBounds_toArray, List.set_cons_zero, List.set_cons_succ]
        refine wpAnyM_take (i := 20) (oi := { dst := Option.some 61, op := Op.call { callee := Callee.value (Operand.func 12), args := #[Operand.tmp 60], argTypes := #[24] }, type := 38, pos := "top02.go:52", after := #[{ on := 19, ground := Ground.data }, { on := 18, ground := Ground.chain }, { on := 18, ground := Ground.guard }], guard := Option.some (18, Bool.true) }) (v := undef) rfl (by kernel_rfl) (by kernel_rfl) (by kernel_rfl) (fun _ _ _ h => h) (YieldsM.of_if (Or.inr ⟨by rfl, rfl⟩)) ?_
        try simp only [Act.put, List.setIfInBounds_toArray, List.set_cons_zero, List.set_cons_succ]
        refine wpAnyM_take (i := 21) (oi := { dst := Option.some 62, op := Op.load 24 (Operand.tmp 1), type := 24, pos := "top02.go:52", after := #[{ on := 18, ground := Ground.guard }], guard := Option.some (18, Bool.true) }) (v := undef) rfl (by kernel_rfl) (by kernel_rfl) (by kernel_rfl) (fun _ _ _ h => h) (YieldsM.of_if (Or.inr ⟨by rfl, rfl⟩)) ?_
        try simp only [Act.put, List.setIfInBounds_toArray, List.set_cons_zero, List.set_cons_succ]
        refine wpAnyM_take (i := 22) (oi := { dst := Option.some 63, op := Op.call { callee := Callee.value (Operand.func 12), args := #[Operand.tmp 62], argTypes := #[24] }, type := 38, pos := "top02.go:52", after := #[{ on := 21, ground := Ground.data }, { on := 20, ground := Ground.chain }, { on := 18, ground := Ground.guard }], guard := Option.some (18, Bool.true) }) (v := undef) rfl (by kernel_rfl) (by kernel_rfl) (by kernel_rfl) (fun _ _ _ h => h) (YieldsM.of_if (Or.inr ⟨by rfl, rfl⟩)) ?_
        try simp only [Act.put, List.setIfInBounds_toArray, List.set_cons_zero, List.set_cons_succ]
        refine wpAnyM_take (i := 23) (oi := { dst := Option.some 64, op := Op.call { callee := Callee.value (Operand.func 11), args := #[Operand.tmp 61, Operand.tmp 63], argTypes := #[38, 38] }, type := 4, pos := "top02.go:52", after := #[{ on := 20, ground := Ground.data }, { on := 22, ground := Ground.data }, { on := 22, ground := Ground.chain }, { on := 18, ground := Ground.guard }], guard := Option.some (18, Bool.true) }) (v := undef) rfl (by kernel_rfl) (by kernel_rfl) (by kernel_rfl) (fun _ _ _ h => h) (YieldsM.of_if (Or.inr ⟨by rfl, rfl⟩)) ?_
        try simp only [Act.put, List.setIfInBounds_toArray, List.set_cons_zero, List.set_cons_succ]
        refine wpAnyM_take (i := 24) (oi := { dst := Option.some 65, op := Op.pick (Operand.tmp 59) (Operand.tmp 64) (Operand.const (Value.bool Bool.false)), type := 4, pos := "top02.go:52", after := #[{ on := 18, ground := Ground.data }, { on := 23, ground := Ground.data }, { on := 15, ground := Ground.guard }], guard := Option.some (15, Bool.false) }) (v := undef) rfl (by kernel_rfl) (by kernel_rfl) (by kernel_rfl) (fun _ _ _ h => h) (YieldsM.of_if (Or.inr ⟨by rfl, rfl⟩)) ?_
        try simp only [Act.put, List.setIfInBounds_toArray, List.set_cons_zero, List.set_cons_succ]
        refine wpAnyM_take (i := 25) (oi := { dst := Option.some 66, op := Op.pick (Operand.tmp 56) (Operand.const (Value.bool Bool.true)) (Operand.tmp 65), type := 4, pos := "top02.go:52", after := #[{ on := 15, ground := Ground.data }, { on := 24, ground := Ground.data }, { on := 11, ground := Ground.guard }], guard := Option.some (11, Bool.true) }) (v := ?vd50z25) rfl (by kernel_rfl) (by kernel_rfl) (by kernel_rfl) (fun _ _ _ h => h) (YieldsM.of_if (Or.inl ⟨by rfl, ?hd50z25⟩)) ?rd50z25
        case hd50z25 => ((intro wz hSw; (try dsimp only at hSw); go_simp); try (with_reducible rfl))
        try simp only [Act.put, List.setIfInBounds_toArray, List.set_cons_zero, List.set_cons_succ]
        refine wpAnyM_take (i := 26) (oi := { dst := Option.some 67, op := Op.pick (Operand.tmp 52) (Operand.tmp 66) (Operand.const (Value.bool Bool.false)), type := 4, pos := "top02.go:52", after := #[{ on := 11, ground := Ground.data }, { on := 25, ground := Ground.data }], guard := Option.none }) (v := ?vd51z26) rfl (by kernel_rfl) (by kernel_rfl) (by kernel_rfl) (fun _ _ _ h => h) (YieldsM.of_if (Or.inl ⟨by rfl, ?hd51z26⟩)) ?rd51z26
        case hd51z26 => ((intro wz hSw; (try dsimp only at hSw); go_simp); try (with_reducible rfl))
        try simp only [Act.put, List.setIfInBounds_toArray, List.set_cons_zero, List.set_cons_succ]
        refine wpAnyM_take (i := 27) (oi := { dst := Option.some 2, op := Op.assign (Operand.tmp 67), type := 4, pos := "top02.go:52", after := #[{ on := 26, ground := Ground.data }, { on := 23, ground := Ground.chain }, { on := 0, ground := Ground.phase }, { on := 1, ground := Ground.phase }, { on := 2, ground := Ground.phase }, { on := 3, ground := Ground.phase }, { on := 4, ground := Ground.phase }, { on := 5, ground := Ground.phase }, { on := 6, ground := Ground.phase }, { on := 7, ground := Ground.phase }, { on := 8, ground := Ground.phase }, { on := 9, ground := Ground.phase }, { on := 10, ground := Ground.phase }, { on := 11, ground := Ground.phase }, { on := 12, ground := Ground.phase }, { on := 13, ground := Ground.phase }, { on := 14, ground := Ground.phase }, { on := 15, ground := Ground.phase }, { on := 16, ground := Ground.phase }, { on := 17, ground := Ground.phase }, { on := 18, ground := Ground.phase }, { on := 19, ground := Ground.phase }, { on := 20, ground := Ground.phase }, { on := 21, ground := Ground.phase }, { on := 22, ground := Ground.phase }, { on := 23, ground := Ground.phase }, { on := 24, ground := Ground.phase }, { on := 25, ground := Ground.phase }, { on := 26, ground := Ground.phase }], guard := Option.none }) (v := ?vd52z27) rfl (by kernel_rfl) (by kernel_rfl) (by kernel_rfl) (fun _ _ _ h => h) (YieldsM.of_if (Or.inl ⟨by rfl, ?hd52z27⟩)) ?rd52z27
        case hd52z27 => ((intro wz hSw; (try dsimp only at hSw); go_simp); try (with_reducible rfl))
        try simp only [Act.put, List.setIfInBounds_toArray, List.set_cons_zero, List.set_cons_succ]
        refine wpAnyM_done (by kernel_rfl) ?_ _
        intro u9 hg9 hS9
        have H9 : Hid (Below w.heap.size w u9) := (HQ7.out u9 hS9.2.2.2.2.out).2.2.2.2.2.2.2.2.2
        clear hg9 hS9
        go_wp2
        go_ret
        exact ⟨rfl, by first | exact H9.out | (rw [← hz]; exact H9.out)⟩
      | true =>
        obtain ⟨hn10, hfn⟩ := HFN.out rfl
        have HSN : Hid (∀ wx, Below W7.heap.size W7 wx → Calls Tryz.prog 10 #[.agg #[.int .i64 (n : Int), .slice co ms.length cc], .int .i64 10] wx fun e w' => e = .returned (.bool true) ∧ Below wx.heap.size wx w') := fun wx hx => by
          obtain ⟨_, _, _, _, _, _, _, _, p, _⟩ := HQ7.out wx hx
          have h := small_calls n co cc ms wx p (by have := HMS.out.2; omega)
          rw [hfn] at h
          exact h
        have hfine := Ds.fine_good HG.out
        have hgm : graphErr (n : Int) ms = (0, []) := by rw [← HMS.out.1]; exact good_norm HG.out
        have hlt : ∀ {l : List Arc3}, graphErr (n : Int) l = (0, []) → ∀ a ∈ l, a.1 < n ∧ a.2.1 < n := fun hl a ha => by
          have h := ((good_iff _ _).1 hl).2 a ha
          unfold arcBad at h
          split at h
          · omega
          · omega
        have HDG : Hid (∀ wx, Below W7.heap.size W7 wx → Calls Tryz.prog 12 #[.agg #[.int .i64 (n : Int), .slice ao xs.length cap]] wx fun e w' => ∃ db rs, e = .returned (.slice (some ⟨db, 0, none⟩) n n) ∧ Ds.MatP wx.heap.size w' db n n rs (Ds.dist n xs) ∧ Below wx.heap.size wx w') := fun wx hx => by
          obtain ⟨_, _, _, _, _, _, p, _, _, _⟩ := HQ7.out wx hx
          exact Ds.dist_calls n (by omega) ao xs.length cap xs wx p (hlt HG.out) hfine (by omega)
        have HDN : Hid (∀ wx, Below W7.heap.size W7 wx → Calls Tryz.prog 12 #[.agg #[.int .i64 (n : Int), .slice co ms.length cc]] wx fun e w' => ∃ db rs, e = .returned (.slice (some ⟨db, 0, none⟩) n n) ∧ Ds.MatP wx.heap.size w' db n n rs (Ds.dist n xs) ∧ Below wx.heap.size wx w') := fun wx hx => by
          obtain ⟨_, _, _, _, _, _, _, _, p, _⟩ := HQ7.out wx hx
          have h := Ds.dist_calls n (by omega) co ms.length cc ms wx p (hlt hgm) (Ds.fine_good hgm) (by have := HMS.out.2; omega)
          rw [Ds.dist_norm hfine, HMS.out.1]
          exact h
        clear hfine hgm hlt hfn
        have HS7 : Hid (∀ wx, Below W7.heap.size W7 wx → (fun w' : World => w'.cell? ⟨z, 0, none⟩ = some (.int .i64 (n : Int)) ∧ w'.cell? ⟨z, 1, none⟩ = some (.slice ao xs.length cap) ∧ w'.cell? ⟨z1, 0, none⟩ = some (.int .i64 (n : Int)) ∧ w'.cell? ⟨z1, 1, none⟩ = some (.slice bo xs.length bc) ∧ w'.cell? ⟨z2, 0, none⟩ = some (.int .i64 (n : Int)) ∧ w'.cell? ⟨z2, 1, none⟩ = some (.slice co ms.length cc) ∧ Hid (Below W7.heap.size W7 w')) wx) := fun wx hx => by
          obtain ⟨p0, p1, p2, p3, p4, p5, _⟩ := HQ7.out wx hx
          exact ⟨p0, p1, p2, p3, p4, p5, hx⟩
        have HSM1 : Hid (∀ wx, (fun w' : World => w'.cell? ⟨z, 0, none⟩ = some (.int .i64 (n : Int)) ∧ w'.cell? ⟨z, 1, none⟩ = some (.slice ao xs.length cap) ∧ w'.cell? ⟨z1, 0, none⟩ = some (.int .i64 (n : Int)) ∧ w'.cell? ⟨z1, 1, none⟩ = some (.slice bo xs.length bc) ∧ w'.cell? ⟨z2, 0, none⟩ = some (.int .i64 (n : Int)) ∧ w'.cell? ⟨z2, 1, none⟩ = some (.slice co ms.length cc) ∧ Hid (Below W7.heap.size W7 w')) wx → Calls Tryz.prog 9 #[.agg #[.int .i64 (n : Int), .slice bo xs.length bc], .agg #[.int .i64 (n : Int), .slice ao xs.length cap]] wx fun e w' => e = .returned (.bool true) ∧ Below wx.heap.size wx w' ∧ (fun w' : World => w'.cell? ⟨z, 0, none⟩ = some (.int .i64 (n : Int)) ∧ w'.cell? ⟨z, 1, none⟩ = some (.slice ao xs.length cap) ∧ w'.cell? ⟨z1, 0, none⟩ = some (.int .i64 (n : Int)) ∧ w'.cell? ⟨z1, 1, none⟩ = some (.slice bo xs.length bc) ∧ w'.cell? ⟨z2, 0, none⟩ = some (.int .i64 (n : Int)) ∧ w'.cell? ⟨z2, 1, none⟩ = some (.slice co ms.length cc) ∧ Hid (Below W7.heap.size W7 w')) w') := fun wx hSx => by
          have hx := hSx.2.2.2.2.2.2.out
          refine (HSM.out wx hx).mono ?_
          rintro e w' ⟨rfl, hb⟩
          exact ⟨rfl, hb, HS7.out w' (btrG hx hb)⟩
        have HSG1 : Hid (∀ wx, (fun w' : World => w'.cell? ⟨z, 0, none⟩ = some (.int .i64 (n : Int)) ∧ w'.cell? ⟨z, 1, none⟩ = some (.slice ao xs.length cap) ∧ w'.cell? ⟨z1, 0, none⟩ = some (.int .i64 (n : Int)) ∧ w'.cell? ⟨z1, 1, none⟩ = some (.slice bo xs.length bc) ∧ w'.cell? ⟨z2, 0, none⟩ = some (.int .i64 (n : Int)) ∧ w'.cell? ⟨z2, 1, none⟩ = some (.slice co ms.length cc) ∧ Hid (Below W7.heap.size W7 w')) wx → Calls Tryz.prog 10 #[.agg #[.int .i64 (n : Int), .slice ao xs.length cap], .int .i64 10] wx fun e w' => e = .returned (.bool true) ∧ Below wx.heap.size wx w' ∧ (fun w' : World => w'.cell? ⟨z, 0, none⟩ = some (.int .i64 (n : Int)) ∧ w'.cell? ⟨z, 1, none⟩ = some (.slice ao xs.length cap) ∧ w'.cell? ⟨z1, 0, none⟩ = some (.int .i64 (n : Int)) ∧ w'.cell? ⟨z1, 1, none⟩ = some (.slice bo xs.length bc) ∧ w'.cell? ⟨z2, 0, none⟩ = some (.int .i64 (n : Int)) ∧ w'.cell? ⟨z2, 1, none⟩ = some (.slice co ms.length cc) ∧ Hid (Below W7.heap.size W7 w')) w') := fun wx hSx => by
          have hx := hSx.2.2.2.2.2.2.out
          refine (HSG.out wx hx).mono ?_
          rintro e w' ⟨rfl, hb⟩
          exact ⟨rfl, hb, HS7.out w' (btrG hx hb)⟩
        have HSN1 : Hid (∀ wx, (fun w' : World => w'.cell? ⟨z, 0, none⟩ = some (.int .i64 (n : Int)) ∧ w'.cell? ⟨z, 1, none⟩ = some (.slice ao xs.length cap) ∧ w'.cell? ⟨z1, 0, none⟩ = some (.int .i64 (n : Int)) ∧ w'.cell? ⟨z1, 1, none⟩ = some (.slice bo xs.length bc) ∧ w'.cell? ⟨z2, 0, none⟩ = some (.int .i64 (n : Int)) ∧ w'.cell? ⟨z2, 1, none⟩ = some (.slice co ms.length cc) ∧ Hid (Below W7.heap.size W7 w')) wx → Calls Tryz.prog 10 #[.agg #[.int .i64 (n : Int), .slice co ms.length cc], .int .i64 10] wx fun e w' => e = .returned (.bool true) ∧ Below wx.heap.size wx w' ∧ (fun w' : World => w'.cell? ⟨z, 0, none⟩ = some (.int .i64 (n : Int)) ∧ w'.cell? ⟨z, 1, none⟩ = some (.slice ao xs.length cap) ∧ w'.cell? ⟨z1, 0, none⟩ = some (.int .i64 (n : Int)) ∧ w'.cell? ⟨z1, 1, none⟩ = some (.slice bo xs.length bc) ∧ w'.cell? ⟨z2, 0, none⟩ = some (.int .i64 (n : Int)) ∧ w'.cell? ⟨z2, 1, none⟩ = some (.slice co ms.length cc) ∧ Hid (Below W7.heap.size W7 w')) w') := fun wx hSx => by
          have hx := hSx.2.2.2.2.2.2.out
          refine (HSN.out wx hx).mono ?_
          rintro e w' ⟨rfl, hb⟩
          exact ⟨rfl, hb, HS7.out w' (btrG hx hb)⟩
        clear c0 c1 d0 d1 f0 f1
        refine wp_region_M (S := (fun w' : World => w'.cell? ⟨z, 0, none⟩ = some (.int .i64 (n : Int)) ∧ w'.cell? ⟨z, 1, none⟩ = some (.slice ao xs.length cap) ∧ w'.cell? ⟨z1, 0, none⟩ = some (.int .i64 (n : Int)) ∧ w'.cell? ⟨z1, 1, none⟩ = some (.slice bo xs.length bc) ∧ w'.cell? ⟨z2, 0, none⟩ = some (.int .i64 (n : Int)) ∧ w'.cell? ⟨z2, 1, none⟩ = some (.slice co ms.length cc) ∧ Hid (Below W7.heap.size W7 w'))) (by kernel_rfl) (HS7.out _ (Below.refl _ _).drew) ?_
        refine wpAnyM_take (i := 0) (oi := { dst := Option.some 41, op := Op.move (Operand.tmp 7), type := 26, pos := "top02.go:52", after := #[], guard := Option.none }) (v := ?ve53z0) rfl (by kernel_rfl) (by kernel_rfl) (by kernel_rfl) (fun _ _ _ h => h) (YieldsM.of_if (Or.inl ⟨by rfl, ?he53z0⟩)) ?re53z0
        case he53z0 => ((intro wz hSw; (try dsimp only at hSw); go_simp); try (with_reducible rfl))
        try simp only [Act.put, List.setIfInBounds_toArray, List.set_cons_zero, List.set_cons_succ]
        refine wpAnyM_take (i := 1) (oi := { dst := Option.some 42, op := Op.binOp BinOp.eql 26 (Operand.tmp 41) (Operand.const Value.nilIface) 26, type := 4, pos := "top02.go:52", after := #[{ on := 0, ground := Ground.data }], guard := Option.none }) (v := ?ve54z1) rfl (by kernel_rfl) (by kernel_rfl) (by kernel_rfl) (fun _ _ _ h => h) (YieldsM.of_if (Or.inl ⟨by rfl, ?he54z1⟩)) ?re54z1
        case he54z1 => ((intro wz hSw; (try dsimp only at hSw); go_simp); try (with_reducible rfl))
        try simp only [Act.put, List.setIfInBounds_toArray, List.set_cons_zero, List.set_cons_succ]
        refine wpAnyM_take (i := 2) (oi := { dst := Option.some 43, op := Op.move (Operand.tmp 42), type := 4, pos := "top02.go:52", after := #[{ on := 1, ground := Ground.data }], guard := Option.none }) (v := ?ve55z2) rfl (by kernel_rfl) (by kernel_rfl) (by kernel_rfl) (fun _ _ _ h => h) (YieldsM.of_if (Or.inl ⟨by rfl, ?he55z2⟩)) ?re55z2
        case he55z2 => ((intro wz hSw; (try dsimp only at hSw); go_simp); try (with_reducible rfl))
        try simp only [Act.put, List.setIfInBounds_toArray, List.set_cons_zero, List.set_cons_succ]
        refine wpAnyM_take (i := 3) (oi := { dst := Option.some 44, op := Op.move (Operand.tmp 9), type := 26, pos := "top02.go:52", after := #[{ on := 2, ground := Ground.guard }], guard := Option.some (2, Bool.true) }) (v := ?ve56z3) rfl (by kernel_rfl) (by kernel_rfl) (by kernel_rfl) (fun _ _ _ h => h) (YieldsM.of_if (Or.inl ⟨by rfl, ?he56z3⟩)) ?re56z3
        case he56z3 => ((intro wz hSw; (try dsimp only at hSw); go_simp); try (with_reducible rfl))
        try simp only [Act.put, List.setIfInBounds_toArray, List.set_cons_zero, List.set_cons_succ]
        refine wpAnyM_take (i := 4) (oi := { dst := Option.some 45, op := Op.binOp BinOp.eql 26 (Operand.tmp 44) (Operand.const Value.nilIface) 26, type := 4, pos := "top02.go:52", after := #[{ on := 3, ground := Ground.data }, { on := 2, ground := Ground.guard }], guard := Option.some (2, Bool.true) }) (v := ?ve57z4) rfl (by kernel_rfl) (by kernel_rfl) (by kernel_rfl) (fun _ _ _ h => h) (YieldsM.of_if (Or.inl ⟨by rfl, ?he57z4⟩)) ?re57z4
        case he57z4 => ((intro wz hSw; (try dsimp only at hSw); go_simp); try (with_reducible rfl))
        try simp only [Act.put, List.setIfInBounds_toArray, List.set_cons_zero, List.set_cons_succ]
        refine wpAnyM_take (i := 5) (oi := { dst := Option.some 46, op := Op.pick (Operand.tmp 43) (Operand.tmp 45) (Operand.const (Value.bool Bool.false)), type := 4, pos := "top02.go:52", after := #[{ on := 2, ground := Ground.data }, { on := 4, ground := Ground.data }], guard := Option.none }) (v := ?ve58z5) rfl (by kernel_rfl) (by kernel_rfl) (by kernel_rfl) (fun _ _ _ h => h) (YieldsM.of_if (Or.inl ⟨by rfl, ?he58z5⟩)) ?re58z5
        case he58z5 => ((intro wz hSw; (try dsimp only at hSw); go_simp); try (with_reducible rfl))
        try simp only [Act.put, List.setIfInBounds_toArray, List.set_cons_zero, List.set_cons_succ]
        refine wpAnyM_take (i := 6) (oi := { dst := Option.some 47, op := Op.move (Operand.tmp 46), type := 4, pos := "top02.go:52", after := #[{ on := 5, ground := Ground.data }, { on := 2, ground := Ground.chain }], guard := Option.none }) (v := ?ve59z6) rfl (by kernel_rfl) (by kernel_rfl) (by kernel_rfl) (fun _ _ _ h => h) (YieldsM.of_if (Or.inl ⟨by rfl, ?he59z6⟩)) ?re59z6
        case he59z6 => ((intro wz hSw; (try dsimp only at hSw); go_simp); try (with_reducible rfl))
        try simp only [Act.put, List.setIfInBounds_toArray, List.set_cons_zero, List.set_cons_succ]
        refine wpAnyM_take (i := 7) (oi := { dst := Option.some 48, op := Op.load 24 (Operand.tmp 6), type := 24, pos := "top02.go:52", after := #[{ on := 6, ground := Ground.guard }], guard := Option.some (6, Bool.true) }) (v := ?ve60z7) rfl (by kernel_rfl) (by kernel_rfl) (by kernel_rfl) (fun _ _ _ h => h) (YieldsM.of_if (Or.inl ⟨by rfl, ?he60z7⟩)) ?re60z7
        case he60z7 => ((intro wz hSw; (try dsimp only at hSw); go_simp); try (with_reducible rfl))
        try simp only [Act.put, List.setIfInBounds_toArray, List.set_cons_zero, List.set_cons_succ]
        refine wpAnyM_take (i := 8) (oi := { dst := Option.some 49, op := Op.load 24 (Operand.tmp 1), type := 24, pos := "top02.go:52", after := #[{ on := 6, ground := Ground.guard }], guard := Option.some (6, Bool.true) }) (v := ?ve61z8) rfl (by kernel_rfl) (by kernel_rfl) (by kernel_rfl) (fun _ _ _ h => h) (YieldsM.of_if (Or.inl ⟨by rfl, ?he61z8⟩)) ?re61z8
        case he61z8 => ((intro wz hSw; (try dsimp only at hSw); go_simp); try (with_reducible rfl))
        try simp only [Act.put, List.setIfInBounds_toArray, List.set_cons_zero, List.set_cons_succ]
        refine wpAnyM_take (i := 9) (oi := { dst := Option.some 50, op := Op.call { callee := Callee.value (Operand.func 9), args := #[Operand.tmp 48, Operand.tmp 49], argTypes := #[24, 24] }, type := 4, pos := "top02.go:52", after := #[{ on := 7, ground := Ground.data }, { on := 8, ground := Ground.data }, { on := 6, ground := Ground.chain }, { on := 6, ground := Ground.guard }], guard := Option.some (6, Bool.true) }) (v := (.bool true)) rfl (by kernel_rfl) (by kernel_rfl) (by kernel_rfl) (fun _ _ _ h => h) (YieldsM.of_call (f := 9) (by rfl) (fun _ _ => by kernel_rfl) (HSM1.out)) ?_
        try simp only [Act.put, List.setIfInBounds_toArray, List.set_cons_zero, List.set_cons_succ]
        refine wpAnyM_take (i := 10) (oi := { dst := Option.some 51, op := Op.pick (Operand.tmp 47) (Operand.tmp 50) (Operand.const (Value.bool Bool.false)), type := 4, pos := "top02.go:52", after := #[{ on := 6, ground := Ground.data }, { on := 9, ground := Ground.data }], guard := Option.none }) (v := ?ve62z10) rfl (by kernel_rfl) (by kernel_rfl) (by kernel_rfl) (fun _ _ _ h => h) (YieldsM.of_if (Or.inl ⟨by rfl, ?he62z10⟩)) ?re62z10
        case he62z10 => ((intro wz hSw; (try dsimp only at hSw); go_simp); try (with_reducible rfl))
        try simp only [Act.put, List.setIfInBounds_toArray, List.set_cons_zero, List.set_cons_succ]
        refine wpAnyM_take (i := 11) (oi := { dst := Option.some 52, op := Op.move (Operand.tmp 51), type := 4, pos := "top02.go:52", after := #[{ on := 10, ground := Ground.data }, { on := 9, ground := Ground.chain }], guard := Option.none }) (v := ?ve63z11) rfl (by kernel_rfl) (by kernel_rfl) (by kernel_rfl) (fun _ _ _ h => h) (YieldsM.of_if (Or.inl ⟨by rfl, ?he63z11⟩)) ?re63z11
        case he63z11 => ((intro wz hSw; (try dsimp only at hSw); go_simp); try (with_reducible rfl))
        try simp only [Act.put, List.setIfInBounds_toArray, List.set_cons_zero, List.set_cons_succ]
        refine wpAnyM_take (i := 12) (oi := { dst := Option.some 53, op := Op.load 24 (Operand.tmp 1), type := 24, pos := "top02.go:52", after := #[{ on := 11, ground := Ground.guard }], guard := Option.some (11, Bool.true) }) (v := ?ve64z12) rfl (by kernel_rfl) (by kernel_rfl) (by kernel_rfl) (fun _ _ _ h => h) (YieldsM.of_if (Or.inl ⟨by rfl, ?he64z12⟩)) ?re64z12
        case he64z12 => ((intro wz hSw; (try dsimp only at hSw); go_simp); try (with_reducible rfl))
        try simp only [Act.put, List.setIfInBounds_toArray, List.set_cons_zero, List.set_cons_succ]
        refine wpAnyM_take (i := 13) (oi := { dst := Option.some 54, op := Op.call { callee := Callee.value (Operand.func 10), args := #[Operand.tmp 53, Operand.const (Value.int IntKind.i64 10)], argTypes := #[24, 3] }, type := 4, pos := "top02.go:52", after := #[{ on := 12, ground := Ground.data }, { on := 11, ground := Ground.chain }, { on := 11, ground := Ground.guard }], guard := Option.some (11, Bool.true) }) (v := (.bool true)) rfl (by kernel_rfl) (by kernel_rfl) (by kernel_rfl) (fun _ _ _ h => h) (YieldsM.of_call (f := 10) (by rfl) (fun _ _ => by kernel_rfl) (HSG1.out)) ?_
        try simp only [Act.put, List.setIfInBounds_toArray, List.set_cons_zero, List.set_cons_succ]
        refine wpAnyM_take (i := 14) (oi := { dst := Option.some 55, op := Op.unOp UnOp.not 4 (Operand.tmp 54), type := 4, pos := "top02.go:52", after := #[{ on := 13, ground := Ground.data }, { on := 11, ground := Ground.guard }], guard := Option.some (11, Bool.true) }) (v := ?ve65z14) rfl (by kernel_rfl) (by kernel_rfl) (by kernel_rfl) (fun _ _ _ h => h) (YieldsM.of_if (Or.inl ⟨by rfl, ?he65z14⟩)) ?re65z14
        case he65z14 => ((intro wz hSw; (try dsimp only at hSw); go_simp); try (with_reducible rfl))
        try simp only [Act.put, List.setIfInBounds_toArray, List.set_cons_zero, List.set_cons_succ]
        refine wpAnyM_take (i := 15) (oi := { dst := Option.some 56, op := Op.move (Operand.tmp 55), type := 4, pos := "top02.go:52", after := #[{ on := 14, ground := Ground.data }, { on := 13, ground := Ground.chain }, { on := 11, ground := Ground.guard }], guard := Option.some (11, Bool.true) }) (v := ?ve66z15) rfl (by kernel_rfl) (by kernel_rfl) (by kernel_rfl) (fun _ _ _ h => h) (YieldsM.of_if (Or.inl ⟨by rfl, ?he66z15⟩)) ?re66z15
        case he66z15 => ((intro wz hSw; (try dsimp only at hSw); go_simp); try (with_reducible rfl))
        try simp only [Act.put, List.setIfInBounds_toArray, List.set_cons_zero, List.set_cons_succ]
        refine wpAnyM_take (i := 16) (oi := { dst := Option.some 57, op := Op.load 24 (Operand.tmp 8), type := 24, pos := "top02.go:52", after := #[{ on := 15, ground := Ground.guard }], guard := Option.some (15, Bool.false) }) (v := ?ve67z16) rfl (by kernel_rfl) (by kernel_rfl) (by kernel_rfl) (fun _ _ _ h => h) (YieldsM.of_if (Or.inl ⟨by rfl, ?he67z16⟩)) ?re67z16
        case he67z16 => ((intro wz hSw; (try dsimp only at hSw); go_simp); try (with_reducible rfl))
        try simp only [Act.put, List.setIfInBounds_toArray, List.set_cons_zero, List.set_cons_succ]
        refine wpAnyM_take (i := 17) (oi := { dst := Option.some 58, op := Op.call { callee := Callee.value (Operand.func 10), args := #[Operand.tmp 57, Operand.const (Value.int IntKind.i64 10)], argTypes := #[24, 3] }, type := 4, pos := "top02.go:52", after := #[{ on := 16, ground := Ground.data }, { on := 15, ground := Ground.chain }, { on := 15, ground := Ground.guard }], guard := Option.some (15, Bool.false) }) (v := (.bool true)) rfl (by kernel_rfl) (by kernel_rfl) (by kernel_rfl) (fun _ _ _ h => h) (YieldsM.of_call (f := 10) (by rfl) (fun _ _ => by kernel_rfl) (HSN1.out)) ?_
        try simp only [Act.put, List.setIfInBounds_toArray, List.set_cons_zero, List.set_cons_succ]
        refine wpAnyM_take (i := 18) (oi := { dst := Option.some 59, op := Op.move (Operand.tmp 58), type := 4, pos := "top02.go:52", after := #[{ on := 17, ground := Ground.data }, { on := 17, ground := Ground.chain }, { on := 15, ground := Ground.guard }], guard := Option.some (15, Bool.false) }) (v := ?ve68z18) rfl (by kernel_rfl) (by kernel_rfl) (by kernel_rfl) (fun _ _ _ h => h) (YieldsM.of_if (Or.inl ⟨by rfl, ?he68z18⟩)) ?re68z18
        case he68z18 => ((intro wz hSw; (try dsimp only at hSw); go_simp); try (with_reducible rfl))
        try simp only [Act.put, List.setIfInBounds_toArray, List.set_cons_zero, List.set_cons_succ]
        refine wpAnyM_take (i := 19) (oi := { dst := Option.some 60, op := Op.load 24 (Operand.tmp 8), type := 24, pos := "top02.go:52", after := #[{ on := 18, ground := Ground.guard }], guard := Option.some (18, Bool.true) }) (v := ?ve69z19) rfl (by kernel_rfl) (by kernel_rfl) (by kernel_rfl) (fun _ _ _ h => h) (YieldsM.of_if (Or.inl ⟨by rfl, ?he69z19⟩)) ?re69z19
        case he69z19 => ((intro wz hSw; (try dsimp only at hSw); go_simp); try (with_reducible rfl))
        try simp only [Act.put, List.setIfInBounds_toArray, List.set_cons_zero, List.set_cons_succ]
        refine wpAnyM_take (i := 21) (oi := { dst := Option.some 62, op := Op.load 24 (Operand.tmp 1), type := 24, pos := "top02.go:52", after := #[{ on := 18, ground := Ground.guard }], guard := Option.some (18, Bool.true) }) (v := ?ve70z21) rfl (by kernel_rfl) (by kernel_rfl) (by kernel_rfl) (fun _ _ _ h => h) (YieldsM.of_if (Or.inl ⟨by rfl, ?he70z21⟩)) ?re70z21
        case he70z21 => ((intro wz hSw; (try dsimp only at hSw); go_simp); try (with_reducible rfl))
        try simp only [Act.put, List.setIfInBounds_toArray, List.set_cons_zero, List.set_cons_succ]
        refine readyM (i := 20) (o := { dst := Option.some 61, op := Op.call { callee := Callee.value (Operand.func 12), args := #[Operand.tmp 60], argTypes := #[24] }, type := 38, pos := "top02.go:52", after := #[{ on := 19, ground := Ground.data }, { on := 18, ground := Ground.chain }, { on := 18, ground := Ground.guard }], guard := Option.some (18, Bool.true) }) rfl (by kernel_rfl) ?_
        intro u4 hu4 hSu4 K hK
        rw [if_pos (by rfl)]
        have hbu4 : Below W7.heap.size W7 u4 := hSu4.2.2.2.2.2.2.out
        go_simp
        refine (HDN.out u4 hbu4).mono ?_
        rintro e9 w14 ⟨db, rs, rfl, hM, hb⟩
        have H14 : Hid (Ds.MatP u4.heap.size w14 db n n rs (Ds.dist n xs) ∧ Below W7.heap.size W7 w14) := ⟨hM, btrG hbu4 hb⟩
        refine hK.out _ _ (HS7.out _ (H14.out.2)) ?_
        clear hK K hu4 hSu4 hbu4 hM hb
        try simp only [Act.put, List.setIfInBounds_toArray, List.set_cons_zero, List.set_cons_succ]
        refine readyM (i := 22) (o := { dst := Option.some 63, op := Op.call { callee := Callee.value (Operand.func 12), args := #[Operand.tmp 62], argTypes := #[24] }, type := 38, pos := "top02.go:52", after := #[{ on := 21, ground := Ground.data }, { on := 20, ground := Ground.chain }, { on := 18, ground := Ground.guard }], guard := Option.some (18, Bool.true) }) rfl (by kernel_rfl) ?_
        intro u5 hu5 hSu5 K hK
        rw [if_pos (by rfl)]
        have hbu5 : Below W7.heap.size W7 u5 := hSu5.2.2.2.2.2.2.out
        have H15 : Hid (Ds.MatP u4.heap.size u5 db n n rs (Ds.dist n xs)) := H14.out.1.keep hu5
        go_simp
        refine (HDG.out u5 hbu5).mono ?_
        rintro e9 w15 ⟨dc, ss, rfl, hM, hb⟩
        have H16 : Hid (Ds.MatP u4.heap.size w15 db n n rs (Ds.dist n xs) ∧ Ds.MatP u5.heap.size w15 dc n n ss (Ds.dist n xs) ∧ Below W7.heap.size W7 w15) := ⟨H15.out.keep hb, hM, btrG hbu5 hb⟩
        refine hK.out _ _ (HS7.out _ (H16.out.2.2)) ?_
        clear hK K hu5 hSu5 hbu5 hM hb
        try simp only [Act.put, List.setIfInBounds_toArray, List.set_cons_zero, List.set_cons_succ]
        refine readyM (i := 23) (o := { dst := Option.some 64, op := Op.call { callee := Callee.value (Operand.func 11), args := #[Operand.tmp 61, Operand.tmp 63], argTypes := #[38, 38] }, type := 4, pos := "top02.go:52", after := #[{ on := 20, ground := Ground.data }, { on := 22, ground := Ground.data }, { on := 22, ground := Ground.chain }, { on := 18, ground := Ground.guard }], guard := Option.some (18, Bool.true) }) rfl (by kernel_rfl) ?_
        intro u6 hu6 hSu6 K hK
        rw [if_pos (by rfl)]
        have hbu6 : Below W7.heap.size W7 u6 := hSu6.2.2.2.2.2.2.out
        go_simp
        refine (sameMat_calls n _ _ db dc rs ss _ u6 (by omega) (H16.out.1.keep hu6) (H16.out.2.1.keep hu6)).mono ?_
        rintro e9 w17 ⟨rfl, hb⟩
        have H17 : Hid (Below W7.heap.size W7 w17) := btrG hbu6 hb
        refine hK.out _ _ (HS7.out _ (H17.out)) ?_
        clear hK K hu6 hSu6 hbu6 hb
        try simp only [Act.put, List.setIfInBounds_toArray, List.set_cons_zero, List.set_cons_succ]
        refine wpAnyM_take (i := 24) (oi := { dst := Option.some 65, op := Op.pick (Operand.tmp 59) (Operand.tmp 64) (Operand.const (Value.bool Bool.false)), type := 4, pos := "top02.go:52", after := #[{ on := 18, ground := Ground.data }, { on := 23, ground := Ground.data }, { on := 15, ground := Ground.guard }], guard := Option.some (15, Bool.false) }) (v := ?ve71z24) rfl (by kernel_rfl) (by kernel_rfl) (by kernel_rfl) (fun _ _ _ h => h) (YieldsM.of_if (Or.inl ⟨by rfl, ?he71z24⟩)) ?re71z24
        case he71z24 => ((intro wz hSw; (try dsimp only at hSw); go_simp); try (with_reducible rfl))
        try simp only [Act.put, List.setIfInBounds_toArray, List.set_cons_zero, List.set_cons_succ]
        refine wpAnyM_take (i := 25) (oi := { dst := Option.some 66, op := Op.pick (Operand.tmp 56) (Operand.const (Value.bool Bool.true)) (Operand.tmp 65), type := 4, pos := "top02.go:52", after := #[{ on := 15, ground := Ground.data }, { on := 24, ground := Ground.data }, { on := 11, ground := Ground.guard }], guard := Option.some (11, Bool.true) }) (v := ?ve72z25) rfl (by kernel_rfl) (by kernel_rfl) (by kernel_rfl) (fun _ _ _ h => h) (YieldsM.of_if (Or.inl ⟨by rfl, ?he72z25⟩)) ?re72z25
        case he72z25 => ((intro wz hSw; (try dsimp only at hSw); go_simp); try (with_reducible rfl))
        try simp only [Act.put, List.setIfInBounds_toArray, List.set_cons_zero, List.set_cons_succ]
        refine wpAnyM_take (i := 26) (oi := { dst := Option.some 67, op := Op.pick (Operand.tmp 52) (Operand.tmp 66) (Operand.const (Value.bool Bool.false)), type := 4, pos := "top02.go:52", after := #[{ on := 11, ground := Ground.data }, { on := 25, ground := Ground.data }], guard := Option.none }) (v := ?ve73z26) rfl (by kernel_rfl) (by kernel_rfl) (by kernel_rfl) (fun _ _ _ h => h) (YieldsM.of_if (Or.inl ⟨by rfl, ?he73z26⟩)) ?re73z26
        case he73z26 => ((intro wz hSw; (try dsimp only at hSw); go_simp); try (with_reducible rfl))
        try simp only [Act.put, List.setIfInBounds_toArray, List.set_cons_zero, List.set_cons_succ]
        refine wpAnyM_take (i := 27) (oi := { dst := Option.some 2, op := Op.assign (Operand.tmp 67), type := 4, pos := "top02.go:52", after := #[{ on := 26, ground := Ground.data }, { on := 23, ground := Ground.chain }, { on := 0, ground := Ground.phase }, { on := 1, ground := Ground.phase }, { on := 2, ground := Ground.phase }, { on := 3, ground := Ground.phase }, { on := 4, ground := Ground.phase }, { on := 5, ground := Ground.phase }, { on := 6, ground := Ground.phase }, { on := 7, ground := Ground.phase }, { on := 8, ground := Ground.phase }, { on := 9, ground := Ground.phase }, { on := 10, ground := Ground.phase }, { on := 11, ground := Ground.phase }, { on := 12, ground := Ground.phase }, { on := 13, ground := Ground.phase }, { on := 14, ground := Ground.phase }, { on := 15, ground := Ground.phase }, { on := 16, ground := Ground.phase }, { on := 17, ground := Ground.phase }, { on := 18, ground := Ground.phase }, { on := 19, ground := Ground.phase }, { on := 20, ground := Ground.phase }, { on := 21, ground := Ground.phase }, { on := 22, ground := Ground.phase }, { on := 23, ground := Ground.phase }, { on := 24, ground := Ground.phase }, { on := 25, ground := Ground.phase }, { on := 26, ground := Ground.phase }], guard := Option.none }) (v := ?ve74z27) rfl (by kernel_rfl) (by kernel_rfl) (by kernel_rfl) (fun _ _ _ h => h) (YieldsM.of_if (Or.inl ⟨by rfl, ?he74z27⟩)) ?re74z27
        case he74z27 => ((intro wz hSw; (try dsimp only at hSw); go_simp); try (with_reducible rfl))
        try simp only [Act.put, List.setIfInBounds_toArray, List.set_cons_zero, List.set_cons_succ]
        refine wpAnyM_done (by kernel_rfl) ?_ _
        intro u9 hg9 hS9
        have H9 : Hid (Below w.heap.size w u9) := (HQ7.out u9 hS9.2.2.2.2.2.2.out).2.2.2.2.2.2.2.2.2
        clear hg9 hS9
        go_wp2
        go_ret
        exact ⟨rfl, by first | exact H9.out | (rw [← hz]; exact H9.out)⟩
    · clear htd
      have HNG : Hid (graphErr N xs ≠ (0, [])) := hE
      have HTW : Hid (Calls Tryz.prog 13 #[.agg #[.int .i64 N, .slice ao xs.length cap]] y3 fun e w' => ∃ lo lc, e = .returned (.agg #[.int .i64 N, .slice lo xs.length lc]) ∧ w'.ownsRow y3.heap.size 50 3 (.slice lo xs.length lc) xs.length (flatA xs) ∧ Below y3.heap.size y3 w') := refTwin_calls N ao cap xs y3 hA3 (by omega)
      clear hE hA3 hT3 hH3 hb03 hs
      go_wp2_with fail
      refine HTW.out.mono ?_
      rintro e y4 ⟨lo, lc, rfl, hrow, hy4⟩
      obtain ⟨zc, hzc⟩ : ∃ x, y4.heap.size = x := ⟨_, rfl⟩
      obtain ⟨W4, hW4⟩ : ∃ W, y4.alloc (.cells #[.int .i64 N, .slice lo xs.length lc] 24) = W := ⟨_, rfl⟩
      have HW4 : Hid (y4.alloc (.cells #[.int .i64 N, .slice lo xs.length lc] 24) = W4) := hW4
      have m4 : W4.heap[zc]? = some (.cells #[.int .i64 N, .slice lo xs.length lc] 24) := by rw [← hW4, ← hzc]; exact heap_newG _ _
      have hb4 : Below y4.heap.size y4 W4 := by rw [← hW4]; exact (Below.refl _ _).alloc (Nat.le_refl _) _
      have HTL : Hid (TL W1 N xs.length zc y3.heap.size lo lc xs W4) := ⟨m4, rowA_keep hrow (fun g _ hg => hb4.block g hg), rfl, fun a ha => by
          rcases hrow.2 with ⟨e, _⟩ | ⟨g, cap', cur, e, _, hg, _⟩
          · injection e with e1; rw [e1] at ha; cases ha
          · injection e with e1
            rw [e1] at ha
            cases ha
            rw [← hzc]
            exact (Array.getElem?_eq_some_iff.1 hg).1, HY3.out.size, by rw [← hzc]; exact Nat.le_trans HY3.out.size hy4.size, btrG (btrG HY3.out hy4) hb4⟩
      obtain ⟨zB, hzB⟩ : ∃ x, y3.heap.size = x := ⟨_, rfl⟩
      rw [hzB] at HTL
      have hzl : z < zc := by have := HY3.out.size; have := hy4.size; omega
      have i2 : IntKind.i64.wrap ((xs.length : Int) + 1) = (xs.length : Int) + 1 := by rw [IntKind.wrap_i64] <;> omega
      obtain ⟨c0, c1, _, _, _, _⟩ := HK1.out W4 HTL.out.below
      clear hrow hy4 hW4 m4 hb4 hzB HTW
      go_upto_region 13 with fail
      rw [HW4.out]
      try rw [hzc]
      go_wp2_with fail
      go_loopw [74, 10] (fun iv lv wx => ∃ (k : Nat) (l : Int) (ys : List Arc3), iv = .int .i64 k ∧ lv = .int .i64 l ∧ Hid (Mend N xs k l ys) ∧ Hid (TL W1 N xs.length zc zB lo lc ys wx)) (fun iv _ _ => xs.length + 1 - (intOf iv).toNat)
      case atStart => exact ⟨0, -1, xs, rfl, rfl, Mend.new N xs, HTL⟩
      case round =>
        obtain ⟨k, l, ys, rfl, rfl, HM, HX⟩ := hrel
        have hk := HM.out.few
        have j1 : decide ((k : Int) < (xs.length : Int) + 1) = true := by simp; omega
        obtain ⟨W5, hW5⟩ : ∃ W, wr.alloc (.cells #[.pointer none] 41) = W := ⟨_, rfl⟩
        have HW5 : Hid (wr.alloc (.cells #[.pointer none] 41) = W5) := hW5
        obtain ⟨zp, hzp⟩ : ∃ x, wr.heap.size = x := ⟨_, rfl⟩
        have m5 : W5.heap[zp]? = some (.cells #[.pointer none] 41) := by rw [← hW5, ← hzp]; exact heap_newG _ _
        have hb5 : Below wr.heap.size wr W5 := by rw [← hW5]; exact (Below.refl _ _).alloc (Nat.le_refl _) _
        have HX5 : Hid (∀ wx, Below W5.heap.size W5 wx → wx.heap[zp]? = some (.cells #[.pointer none] 41) ∧ TL W1 N xs.length zc zB lo lc ys wx ∧ HasType wx ∧ Below w.heap.size w wx) := fun wx hx => by
          have ht := HX.out.keep (btrG hb5 hx)
          exact ⟨(hx.block _ (Array.getElem?_eq_some_iff.1 m5).1).trans m5, ht, (HK1.out wx ht.below).2.2.2.2.1, (HK1.out wx ht.below).2.2.2.2.2⟩
        have hzq : zc < zp := by rw [← hzp]; exact (Array.getElem?_eq_some_iff.1 HX.out.box).1
        have hyl := HX.out.len
        have HCK : Hid (Calls Tryz.prog 4 #[.agg #[.int .i64 N, .slice lo xs.length lc]] W5 fun e w' => ∃ v, e = .returned v ∧ IsTold w' (graphErr N ys) v ∧ Below W5.heap.size W5 w') := by
          have h := check_calls N lo lc ys W5 ((HX5.out W5 (Below.refl _ _)).2.1.arcs) (by rw [hyl]; exact hm)
          rw [hyl] at h
          exact h
        have d0 : W5.cell? ⟨zc, 0, none⟩ = some (.int .i64 N) := by simp [World.cell?, (HX5.out W5 (Below.refl _ _)).2.1.box]
        have d1 : W5.cell? ⟨zc, 1, none⟩ = some (.slice lo xs.length lc) := by simp [World.cell?, (HX5.out W5 (Below.refl _ _)).2.1.box]
        have HZP : Hid (wr.heap.size = zp) := hzp
        clear hW5 m5 hb5 hzp c0 c1
        go_upto_region 16 with fail
        rw [HW5.out]
        try rw [HZP.out]
        go_wp2_with fail
        refine HCK.out.mono ?_
        rintro e y5 ⟨v5, rfl, ht5, hy5⟩
        obtain ⟨hp5, hX5, hH5, hB5⟩ := HX5.out y5 hy5
        clear hy5 HCK d0 d1
        rcases graph_cases N ys (by omega) with ⟨hN, hg⟩ | ⟨hN, hg⟩ | ⟨hN, i, c, hg, hi, hc, hbd, hz0, a, ha, hne⟩
        · rw [hg] at ht5
          have hi5 : IsErr y5 (.iface 29 (.int .i64 9)) [] v5 := by
            rcases ht5 with ⟨e, _⟩ | ⟨_, h⟩
            · exact absurd (congrArg Prod.fst e) (by decide)
            · exact h
          obtain rfl : v5 = .iface 29 (.int .i64 9) := hi5
          have hk0 : k = 0 := by
            rcases Nat.eq_zero_or_pos k with h | h
            · exact h
            · have := HM.out.later h
              omega
          obtain ⟨hl1, _⟩ := HM.out.start hk0
          have j2 : decide (l < 0) = true := by simp; omega
          have HAS : Hid (Calls Tryz.prog 14 #[.iface 29 (.int .i64 9), .iface 43 (.pointer (some ⟨zp, 0, none⟩))] y5 fun ev w' => ev = .returned (.bool false) ∧ Below y5.heap.size y5 w') := as_fault_no _ _ y5 hH5
          have HB5 : Hid (Below w.heap.size w y5) := hB5
          clear hp5 hX5 hH5 hB5 ht5 hg hN hl1 hk0
          go_wp2_with fail
          refine HAS.out.mono ?_
          rintro e y6 ⟨rfl, hy6⟩
          have H6 : Hid (Below w.heap.size w y6) := btrG HB5.out hy6
          have HI2 : Hid (Calls Tryz.prog 5 #[.iface 29 (.int .i64 9), .iface 29 (.int .i64 9)] y6 fun ev w' => ev = .returned (.bool ((9 : Int) == 9)) ∧ w' = y6) := errorsIs_num [] 9 9 _ y6 rfl
          clear hy6 HAS
          go_wp2_with fail
          refine HI2.out.mono ?_
          rintro e y7 ⟨rfl, rfl⟩
          clear HI2
          go_wp2
          go_ret
          exact ⟨rfl, H6.out⟩
        · rw [hg] at ht5
          obtain rfl := told_nilX ht5
          have hk0 : 0 < k := by
            rcases Nat.eq_zero_or_pos k with h | h
            · obtain ⟨_, e⟩ := HM.out.start h
              rw [e] at hg
              exact absurd hg HNG.out
            · exact h
          have j2 : decide (l ≥ 0) = true := by have := (HM.out.later hk0).1; simp; omega
          have HB5 : Hid (Below w.heap.size w y5) := hB5
          clear hp5 hX5 hH5 hB5 ht5 hg hN hk0
          go_wp2
          go_ret
          exact ⟨rfl, HB5.out⟩
        · rw [hg] at ht5
          have hi5 : IsErr y5 (.iface 29 (.int .i64 c)) [(4, (i : Int))] v5 := by
            rcases ht5 with ⟨e, _⟩ | ⟨_, h⟩
            · exact absurd (congrArg Prod.fst e) (by show ¬ c = 0; omega)
            · exact h
          obtain ⟨b, u, hv5, hfb, hu⟩ := hi5
          obtain rfl : u = .iface 29 (.int .i64 c) := hu
          subst hv5
          have hbp : b ≠ zp := by
            intro e
            rw [e, hp5] at hfb
            simp at hfb
          have HAS : Hid (Calls Tryz.prog 14 #[.iface 41 (.pointer (some ⟨b, 0, none⟩)), .iface 43 (.pointer (some ⟨zp, 0, none⟩))] y5 fun ev w' => ev = .returned (.bool true) ∧ w'.heap[zp]? = some (.cells #[.pointer (some ⟨b, 0, none⟩)] 41) ∧ Touch zp y5 w') := as_fault ⟨b, 0, none⟩ zp (.pointer none) y5 hH5 hp5
          obtain ⟨g, rfl⟩ : ∃ g, lo = some ⟨g, 0, none⟩ := by
            rcases hX5.row.2 with ⟨e, h0⟩ | ⟨g, cap', cur, e, _⟩
            · omega
            · injection e with e1
              exact ⟨g, e1⟩
          have HX5' : Hid (TL W1 N xs.length zc zB (some ⟨g, 0, none⟩) lc ys y5 ∧ y5.heap[b]? = some (.cells #[.int .i64 4, .int .i64 (i : Int), .iface 29 (.int .i64 c)] 48)) := ⟨hX5, hfb⟩
          have hla := HM.out.above ha hne
          have HFA : Hid (i < ys.length ∧ (c = 7 ∨ c = 8) ∧ (∀ k a, k < i → ys[k]? = some a → arcBad N a = 0) ∧ (N = 0 → c = 7) ∧ ¬ (N < 0 ∨ 65536 < N)) := ⟨hi, hc, hbd, hz0, hN⟩
          have j3 : decide ((i : Int) ≤ l) = false := by simp; omega
          have j4 : decide ((i : Int) ≥ (xs.length : Int)) = false := by simp; omega
          have j4a : decide (xs.length ≤ i) = false := by simp; omega
          have j4b : decide ((xs.length : Int) ≤ (i : Int)) = false := by simp; omega
          have j5 : decide (N < 0) = false := by simp; omega
          clear hp5 hX5 hH5 hB5 ht5 hfb hg hN hi hc hbd hz0 ha hne
          go_wp2_with fail
          refine HAS.out.mono ?_
          rintro e y6 ⟨rfl, hp6, ht6⟩
          have HX6 : Hid (∀ wx, Below y6.heap.size y6 wx → TL W1 N xs.length zc zB (some ⟨g, 0, none⟩) lc ys wx ∧ wx.heap[b]? = some (.cells #[.int .i64 4, .int .i64 (i : Int), .iface 29 (.int .i64 c)] 48) ∧ wx.heap[zp]? = some (.cells #[.pointer (some ⟨b, 0, none⟩)] 41) ∧ Below w.heap.size w wx) := fun wx hx => by
            have ht := (HX5'.out.1.touch ht6 hzq).keep hx
            have hf := (ht6.block b (Array.getElem?_eq_some_iff.1 HX5'.out.2).1 hbp).trans HX5'.out.2
            exact ⟨ht, (hx.block _ (Array.getElem?_eq_some_iff.1 hf).1).trans hf, (hx.block _ (Array.getElem?_eq_some_iff.1 hp6).1).trans hp6, (HK1.out wx ht.below).2.2.2.2.2⟩
          obtain ⟨hX6, hf6, _, _⟩ := HX6.out y6 (Below.refl _ _)
          have q0 : y6.cell? ⟨zp, 0, none⟩ = some (.pointer (some ⟨b, 0, none⟩)) := by simp [World.cell?, hp6]
          have q1 : y6.cell? ⟨b, 0, none⟩ = some (.int .i64 4) := by simp [World.cell?, hf6]
          have q2 : y6.cell? ⟨b, 1, none⟩ = some (.int .i64 (i : Int)) := by simp [World.cell?, hf6]
          have q3 : y6.cell? ⟨zc, 0, none⟩ = some (.int .i64 N) := by simp [World.cell?, hX6.box]
          have q4 : y6.cell? ⟨zc, 1, none⟩ = some (.slice (some ⟨g, 0, none⟩) xs.length lc) := by simp [World.cell?, hX6.box]
          have HS : Hid (∀ wx, Below y6.heap.size y6 wx → (wx.cell? ⟨zp, 0, none⟩ = some (.pointer (some ⟨b, 0, none⟩)) ∧ wx.cell? ⟨b, 0, none⟩ = some (.int .i64 4) ∧ wx.cell? ⟨b, 1, none⟩ = some (.int .i64 (i : Int)) ∧ wx.cell? ⟨zc, 0, none⟩ = some (.int .i64 N) ∧ wx.cell? ⟨zc, 1, none⟩ = some (.slice (some ⟨g, 0, none⟩) xs.length lc) ∧ Hid (Below y6.heap.size y6 wx))) := fun wx hx => by
            obtain ⟨hX7, hf7, hp7, _⟩ := HX6.out wx hx
            exact ⟨by simp [World.cell?, hp7], by simp [World.cell?, hf7], by simp [World.cell?, hf7], by simp [World.cell?, hX7.box], by simp [World.cell?, hX7.box], hx⟩
          clear hp6 ht6 hX6 hf6 HAS HX5' q0 q1 q2 q3 q4
          go_upto_region 21 with fail
          refine wp_region_M (S := (fun wx : World => wx.cell? ⟨zp, 0, none⟩ = some (.pointer (some ⟨b, 0, none⟩)) ∧ wx.cell? ⟨b, 0, none⟩ = some (.int .i64 4) ∧ wx.cell? ⟨b, 1, none⟩ = some (.int .i64 (i : Int)) ∧ wx.cell? ⟨zc, 0, none⟩ = some (.int .i64 N) ∧ wx.cell? ⟨zc, 1, none⟩ = some (.slice (some ⟨g, 0, none⟩) xs.length lc) ∧ Hid (Below y6.heap.size y6 wx))) (by kernel_rfl) (HS.out _ (Below.refl _ _).drew) ?_
          refine wpAnyM_take (i := 0) (oi := { dst := Option.some 93, op := Op.load 41 (Operand.tmp 12), type := 41, pos := "top02.go:65", after := #[], guard := Option.none }) (v := ?vc1z0) rfl (by kernel_rfl) (by kernel_rfl) (by kernel_rfl) (fun _ _ _ h => h) (YieldsM.of_if (Or.inl ⟨by rfl, ?hc1z0⟩)) ?rc1z0
          case hc1z0 => ((intro wz hSw; (try dsimp only at hSw); go_simp); try (with_reducible rfl))
          try simp only [Act.put, List.setIfInBounds_toArray, List.set_cons_zero, List.set_cons_succ]
          refine wpAnyM_take (i := 1) (oi := { dst := Option.some 94, op := Op.binOp BinOp.eql 41 (Operand.tmp 93) (Operand.const (Value.pointer Option.none)) 41, type := 4, pos := "top02.go:65", after := #[{ on := 0, ground := Ground.data }], guard := Option.none }) (v := ?vc2z1) rfl (by kernel_rfl) (by kernel_rfl) (by kernel_rfl) (fun _ _ _ h => h) (YieldsM.of_if (Or.inl ⟨by rfl, ?hc2z1⟩)) ?rc2z1
          case hc2z1 => ((intro wz hSw; (try dsimp only at hSw); go_simp); try (with_reducible rfl))
          try simp only [Act.put, List.setIfInBounds_toArray, List.set_cons_zero, List.set_cons_succ]
          refine wpAnyM_take (i := 2) (oi := { dst := Option.some 95, op := Op.move (Operand.tmp 94), type := 4, pos := "top02.go:65", after := #[{ on := 1, ground := Ground.data }], guard := Option.none }) (v := ?vc3z2) rfl (by kernel_rfl) (by kernel_rfl) (by kernel_rfl) (fun _ _ _ h => h) (YieldsM.of_if (Or.inl ⟨by rfl, ?hc3z2⟩)) ?rc3z2
          case hc3z2 => ((intro wz hSw; (try dsimp only at hSw); go_simp); try (with_reducible rfl))
          try simp only [Act.put, List.setIfInBounds_toArray, List.set_cons_zero, List.set_cons_succ]
          refine wpAnyM_take (i := 3) (oi := { dst := Option.some 96, op := Op.load 41 (Operand.tmp 12), type := 41, pos := "top02.go:65", after := #[{ on := 2, ground := Ground.guard }], guard := Option.some (2, Bool.false) }) (v := ?vc4z3) rfl (by kernel_rfl) (by kernel_rfl) (by kernel_rfl) (fun _ _ _ h => h) (YieldsM.of_if (Or.inl ⟨by rfl, ?hc4z3⟩)) ?rc4z3
          case hc4z3 => ((intro wz hSw; (try dsimp only at hSw); go_simp); try (with_reducible rfl))
          try simp only [Act.put, List.setIfInBounds_toArray, List.set_cons_zero, List.set_cons_succ]
          refine wpAnyM_take (i := 4) (oi := { dst := Option.some 97, op := Op.nilCheck (Operand.tmp 96), type := 0, pos := "top02.go:65", after := #[{ on := 3, ground := Ground.data }, { on := 2, ground := Ground.guard }], guard := Option.some (2, Bool.false) }) (v := ?vc5z4) rfl (by kernel_rfl) (by kernel_rfl) (by kernel_rfl) (fun _ _ _ h => h) (YieldsM.of_if (Or.inl ⟨by rfl, ?hc5z4⟩)) ?rc5z4
          case hc5z4 => ((intro wz hSw; (try dsimp only at hSw); go_simp); try (with_reducible rfl))
          try simp only [Act.put, List.setIfInBounds_toArray, List.set_cons_zero, List.set_cons_succ]
          refine wpAnyM_take (i := 5) (oi := { dst := Option.some 98, op := Op.fieldAddr 48 (Operand.tmp 97) 0, type := 0, pos := "top02.go:65", after := #[{ on := 4, ground := Ground.data }, { on := 2, ground := Ground.guard }], guard := Option.some (2, Bool.false) }) (v := ?vc6z5) rfl (by kernel_rfl) (by kernel_rfl) (by kernel_rfl) (fun _ _ _ h => h) (YieldsM.of_if (Or.inl ⟨by rfl, ?hc6z5⟩)) ?rc6z5
          case hc6z5 => ((intro wz hSw; (try dsimp only at hSw); go_simp); try (with_reducible rfl))
          try simp only [Act.put, List.setIfInBounds_toArray, List.set_cons_zero, List.set_cons_succ]
          refine wpAnyM_take (i := 6) (oi := { dst := Option.some 99, op := Op.fieldAddr 46 (Operand.tmp 98) 0, type := 0, pos := "top02.go:65", after := #[{ on := 5, ground := Ground.data }, { on := 2, ground := Ground.guard }], guard := Option.some (2, Bool.false) }) (v := ?vc7z6) rfl (by kernel_rfl) (by kernel_rfl) (by kernel_rfl) (fun _ _ _ h => h) (YieldsM.of_if (Or.inl ⟨by rfl, ?hc7z6⟩)) ?rc7z6
          case hc7z6 => ((intro wz hSw; (try dsimp only at hSw); go_simp); try (with_reducible rfl))
          try simp only [Act.put, List.setIfInBounds_toArray, List.set_cons_zero, List.set_cons_succ]
          refine wpAnyM_take (i := 7) (oi := { dst := Option.some 100, op := Op.load 44 (Operand.tmp 99), type := 44, pos := "top02.go:65", after := #[{ on := 6, ground := Ground.data }, { on := 2, ground := Ground.guard }], guard := Option.some (2, Bool.false) }) (v := ?vc8z7) rfl (by kernel_rfl) (by kernel_rfl) (by kernel_rfl) (fun _ _ _ h => h) (YieldsM.of_if (Or.inl ⟨by rfl, ?hc8z7⟩)) ?rc8z7
          case hc8z7 => ((intro wz hSw; (try dsimp only at hSw); go_simp); try (with_reducible rfl))
          try simp only [Act.put, List.setIfInBounds_toArray, List.set_cons_zero, List.set_cons_succ]
          refine wpAnyM_take (i := 8) (oi := { dst := Option.some 101, op := Op.binOp BinOp.neq 44 (Operand.tmp 100) (Operand.const (Value.int IntKind.i64 4)) 44, type := 4, pos := "top02.go:65", after := #[{ on := 7, ground := Ground.data }, { on := 2, ground := Ground.guard }], guard := Option.some (2, Bool.false) }) (v := ?vc9z8) rfl (by kernel_rfl) (by kernel_rfl) (by kernel_rfl) (fun _ _ _ h => h) (YieldsM.of_if (Or.inl ⟨by rfl, ?hc9z8⟩)) ?rc9z8
          case hc9z8 => ((intro wz hSw; (try dsimp only at hSw); go_simp); try (with_reducible rfl))
          try simp only [Act.put, List.setIfInBounds_toArray, List.set_cons_zero, List.set_cons_succ]
          refine wpAnyM_take (i := 9) (oi := { dst := Option.some 102, op := Op.pick (Operand.tmp 95) (Operand.const (Value.bool Bool.true)) (Operand.tmp 101), type := 4, pos := "top02.go:65", after := #[{ on := 2, ground := Ground.data }, { on := 8, ground := Ground.data }], guard := Option.none }) (v := ?vc10z9) rfl (by kernel_rfl) (by kernel_rfl) (by kernel_rfl) (fun _ _ _ h => h) (YieldsM.of_if (Or.inl ⟨by rfl, ?hc10z9⟩)) ?rc10z9
          case hc10z9 => ((intro wz hSw; (try dsimp only at hSw); go_simp); try (with_reducible rfl))
          try simp only [Act.put, List.setIfInBounds_toArray, List.set_cons_zero, List.set_cons_succ]
          refine wpAnyM_take (i := 10) (oi := { dst := Option.some 103, op := Op.move (Operand.tmp 102), type := 4, pos := "top02.go:65", after := #[{ on := 9, ground := Ground.data }, { on := 2, ground := Ground.chain }], guard := Option.none }) (v := ?vc11z10) rfl (by kernel_rfl) (by kernel_rfl) (by kernel_rfl) (fun _ _ _ h => h) (YieldsM.of_if (Or.inl ⟨by rfl, ?hc11z10⟩)) ?rc11z10
          case hc11z10 => ((intro wz hSw; (try dsimp only at hSw); go_simp); try (with_reducible rfl))
          try simp only [Act.put, List.setIfInBounds_toArray, List.set_cons_zero, List.set_cons_succ]
          refine wpAnyM_take (i := 11) (oi := { dst := Option.some 104, op := Op.load 41 (Operand.tmp 12), type := 41, pos := "top02.go:65", after := #[{ on := 10, ground := Ground.guard }], guard := Option.some (10, Bool.false) }) (v := ?vc12z11) rfl (by kernel_rfl) (by kernel_rfl) (by kernel_rfl) (fun _ _ _ h => h) (YieldsM.of_if (Or.inl ⟨by rfl, ?hc12z11⟩)) ?rc12z11
          case hc12z11 => ((intro wz hSw; (try dsimp only at hSw); go_simp); try (with_reducible rfl))
          try simp only [Act.put, List.setIfInBounds_toArray, List.set_cons_zero, List.set_cons_succ]
          refine wpAnyM_take (i := 12) (oi := { dst := Option.some 105, op := Op.nilCheck (Operand.tmp 104), type := 0, pos := "top02.go:65", after := #[{ on := 11, ground := Ground.data }, { on := 10, ground := Ground.guard }], guard := Option.some (10, Bool.false) }) (v := ?vc13z12) rfl (by kernel_rfl) (by kernel_rfl) (by kernel_rfl) (fun _ _ _ h => h) (YieldsM.of_if (Or.inl ⟨by rfl, ?hc13z12⟩)) ?rc13z12
          case hc13z12 => ((intro wz hSw; (try dsimp only at hSw); go_simp); try (with_reducible rfl))
          try simp only [Act.put, List.setIfInBounds_toArray, List.set_cons_zero, List.set_cons_succ]
          refine wpAnyM_take (i := 13) (oi := { dst := Option.some 106, op := Op.fieldAddr 48 (Operand.tmp 105) 0, type := 0, pos := "top02.go:65", after := #[{ on := 12, ground := Ground.data }, { on := 10, ground := Ground.guard }], guard := Option.some (10, Bool.false) }) (v := ?vc14z13) rfl (by kernel_rfl) (by kernel_rfl) (by kernel_rfl) (fun _ _ _ h => h) (YieldsM.of_if (Or.inl ⟨by rfl, ?hc14z13⟩)) ?rc14z13
          case hc14z13 => ((intro wz hSw; (try dsimp only at hSw); go_simp); try (with_reducible rfl))
          try simp only [Act.put, List.setIfInBounds_toArray, List.set_cons_zero, List.set_cons_succ]
          refine wpAnyM_take (i := 14) (oi := { dst := Option.some 107, op := Op.fieldAddr 46 (Operand.tmp 106) 1, type := 0, pos := "top02.go:65", after := #[{ on := 13, ground := Ground.data }, { on := 10, ground := Ground.guard }], guard := Option.some (10, Bool.false) }) (v := ?vc15z14) rfl (by kernel_rfl) (by kernel_rfl) (by kernel_rfl) (fun _ _ _ h => h) (YieldsM.of_if (Or.inl ⟨by rfl, ?hc15z14⟩)) ?rc15z14
          case hc15z14 => ((intro wz hSw; (try dsimp only at hSw); go_simp); try (with_reducible rfl))
          try simp only [Act.put, List.setIfInBounds_toArray, List.set_cons_zero, List.set_cons_succ]
          refine wpAnyM_take (i := 15) (oi := { dst := Option.some 108, op := Op.load 3 (Operand.tmp 107), type := 3, pos := "top02.go:65", after := #[{ on := 14, ground := Ground.data }, { on := 10, ground := Ground.guard }], guard := Option.some (10, Bool.false) }) (v := ?vc16z15) rfl (by kernel_rfl) (by kernel_rfl) (by kernel_rfl) (fun _ _ _ h => h) (YieldsM.of_if (Or.inl ⟨by rfl, ?hc16z15⟩)) ?rc16z15
          case hc16z15 => ((intro wz hSw; (try dsimp only at hSw); go_simp); try (with_reducible rfl))
          try simp only [Act.put, List.setIfInBounds_toArray, List.set_cons_zero, List.set_cons_succ]
          refine wpAnyM_take (i := 16) (oi := { dst := Option.some 109, op := Op.move (Operand.tmp 10), type := 3, pos := "top02.go:65", after := #[{ on := 10, ground := Ground.guard }], guard := Option.some (10, Bool.false) }) (v := ?vc17z16) rfl (by kernel_rfl) (by kernel_rfl) (by kernel_rfl) (fun _ _ _ h => h) (YieldsM.of_if (Or.inl ⟨by rfl, ?hc17z16⟩)) ?rc17z16
          case hc17z16 => ((intro wz hSw; (try dsimp only at hSw); go_simp); try (with_reducible rfl))
          try simp only [Act.put, List.setIfInBounds_toArray, List.set_cons_zero, List.set_cons_succ]
          refine wpAnyM_take (i := 17) (oi := { dst := Option.some 110, op := Op.binOp BinOp.leq 3 (Operand.tmp 108) (Operand.tmp 109) 3, type := 4, pos := "top02.go:65", after := #[{ on := 15, ground := Ground.data }, { on := 16, ground := Ground.data }, { on := 10, ground := Ground.guard }], guard := Option.some (10, Bool.false) }) (v := ?vc18z17) rfl (by kernel_rfl) (by kernel_rfl) (by kernel_rfl) (fun _ _ _ h => h) (YieldsM.of_if (Or.inl ⟨by rfl, ?hc18z17⟩)) ?rc18z17
          case hc18z17 => ((intro wz hSw; (try dsimp only at hSw); go_simp); try (with_reducible rfl))
          try simp only [Act.put, List.setIfInBounds_toArray, List.set_cons_zero, List.set_cons_succ]
          refine wpAnyM_take (i := 18) (oi := { dst := Option.some 111, op := Op.pick (Operand.tmp 103) (Operand.const (Value.bool Bool.true)) (Operand.tmp 110), type := 4, pos := "top02.go:65", after := #[{ on := 10, ground := Ground.data }, { on := 17, ground := Ground.data }], guard := Option.none }) (v := ?vc19z18) rfl (by kernel_rfl) (by kernel_rfl) (by kernel_rfl) (fun _ _ _ h => h) (YieldsM.of_if (Or.inl ⟨by rfl, ?hc19z18⟩)) ?rc19z18
          case hc19z18 => ((intro wz hSw; (try dsimp only at hSw); go_simp); try (with_reducible rfl))
          try simp only [Act.put, List.setIfInBounds_toArray, List.set_cons_zero, List.set_cons_succ]
          refine wpAnyM_take (i := 19) (oi := { dst := Option.some 112, op := Op.move (Operand.tmp 111), type := 4, pos := "top02.go:65", after := #[{ on := 18, ground := Ground.data }, { on := 10, ground := Ground.chain }], guard := Option.none }) (v := ?vc20z19) rfl (by kernel_rfl) (by kernel_rfl) (by kernel_rfl) (fun _ _ _ h => h) (YieldsM.of_if (Or.inl ⟨by rfl, ?hc20z19⟩)) ?rc20z19
          case hc20z19 => ((intro wz hSw; (try dsimp only at hSw); go_simp); try (with_reducible rfl))
          try simp only [Act.put, List.setIfInBounds_toArray, List.set_cons_zero, List.set_cons_succ]
          refine wpAnyM_take (i := 20) (oi := { dst := Option.some 113, op := Op.load 41 (Operand.tmp 12), type := 41, pos := "top02.go:65", after := #[{ on := 19, ground := Ground.guard }], guard := Option.some (19, Bool.false) }) (v := ?vc21z20) rfl (by kernel_rfl) (by kernel_rfl) (by kernel_rfl) (fun _ _ _ h => h) (YieldsM.of_if (Or.inl ⟨by rfl, ?hc21z20⟩)) ?rc21z20
          case hc21z20 => ((intro wz hSw; (try dsimp only at hSw); go_simp); try (with_reducible rfl))
          try simp only [Act.put, List.setIfInBounds_toArray, List.set_cons_zero, List.set_cons_succ]
          refine wpAnyM_take (i := 21) (oi := { dst := Option.some 114, op := Op.nilCheck (Operand.tmp 113), type := 0, pos := "top02.go:65", after := #[{ on := 20, ground := Ground.data }, { on := 19, ground := Ground.guard }], guard := Option.some (19, Bool.false) }) (v := ?vc22z21) rfl (by kernel_rfl) (by kernel_rfl) (by kernel_rfl) (fun _ _ _ h => h) (YieldsM.of_if (Or.inl ⟨by rfl, ?hc22z21⟩)) ?rc22z21
          case hc22z21 => ((intro wz hSw; (try dsimp only at hSw); go_simp); try (with_reducible rfl))
          try simp only [Act.put, List.setIfInBounds_toArray, List.set_cons_zero, List.set_cons_succ]
          refine wpAnyM_take (i := 22) (oi := { dst := Option.some 115, op := Op.fieldAddr 48 (Operand.tmp 114) 0, type := 0, pos := "top02.go:65", after := #[{ on := 21, ground := Ground.data }, { on := 19, ground := Ground.guard }], guard := Option.some (19, Bool.false) }) (v := ?vc23z22) rfl (by kernel_rfl) (by kernel_rfl) (by kernel_rfl) (fun _ _ _ h => h) (YieldsM.of_if (Or.inl ⟨by rfl, ?hc23z22⟩)) ?rc23z22
          case hc23z22 => ((intro wz hSw; (try dsimp only at hSw); go_simp); try (with_reducible rfl))
          try simp only [Act.put, List.setIfInBounds_toArray, List.set_cons_zero, List.set_cons_succ]
          refine wpAnyM_take (i := 23) (oi := { dst := Option.some 116, op := Op.fieldAddr 46 (Operand.tmp 115) 1, type := 0, pos := "top02.go:65", after := #[{ on := 22, ground := Ground.data }, { on := 19, ground := Ground.guard }], guard := Option.some (19, Bool.false) }) (v := ?vc24z23) rfl (by kernel_rfl) (by kernel_rfl) (by kernel_rfl) (fun _ _ _ h => h) (YieldsM.of_if (Or.inl ⟨by rfl, ?hc24z23⟩)) ?rc24z23
          case hc24z23 => ((intro wz hSw; (try dsimp only at hSw); go_simp); try (with_reducible rfl))
          try simp only [Act.put, List.setIfInBounds_toArray, List.set_cons_zero, List.set_cons_succ]
          refine wpAnyM_take (i := 24) (oi := { dst := Option.some 117, op := Op.load 3 (Operand.tmp 116), type := 3, pos := "top02.go:65", after := #[{ on := 23, ground := Ground.data }, { on := 19, ground := Ground.guard }], guard := Option.some (19, Bool.false) }) (v := ?vc25z24) rfl (by kernel_rfl) (by kernel_rfl) (by kernel_rfl) (fun _ _ _ h => h) (YieldsM.of_if (Or.inl ⟨by rfl, ?hc25z24⟩)) ?rc25z24
          case hc25z24 => ((intro wz hSw; (try dsimp only at hSw); go_simp); try (with_reducible rfl))
          try simp only [Act.put, List.setIfInBounds_toArray, List.set_cons_zero, List.set_cons_succ]
          refine wpAnyM_take (i := 25) (oi := { dst := Option.some 118, op := Op.fieldAddr 24 (Operand.tmp 11) 1, type := 0, pos := "top02.go:65", after := #[{ on := 19, ground := Ground.guard }], guard := Option.some (19, Bool.false) }) (v := ?vc26z25) rfl (by kernel_rfl) (by kernel_rfl) (by kernel_rfl) (fun _ _ _ h => h) (YieldsM.of_if (Or.inl ⟨by rfl, ?hc26z25⟩)) ?rc26z25
          case hc26z25 => ((intro wz hSw; (try dsimp only at hSw); go_simp); try (with_reducible rfl))
          try simp only [Act.put, List.setIfInBounds_toArray, List.set_cons_zero, List.set_cons_succ]
          refine wpAnyM_take (i := 26) (oi := { dst := Option.some 119, op := Op.load 22 (Operand.tmp 118), type := 22, pos := "top02.go:65", after := #[{ on := 25, ground := Ground.data }, { on := 19, ground := Ground.guard }], guard := Option.some (19, Bool.false) }) (v := ?vc27z26) rfl (by kernel_rfl) (by kernel_rfl) (by kernel_rfl) (fun _ _ _ h => h) (YieldsM.of_if (Or.inl ⟨by rfl, ?hc27z26⟩)) ?rc27z26
          case hc27z26 => ((intro wz hSw; (try dsimp only at hSw); go_simp); try (with_reducible rfl))
          try simp only [Act.put, List.setIfInBounds_toArray, List.set_cons_zero, List.set_cons_succ]
          refine wpAnyM_take (i := 27) (oi := { dst := Option.some 120, op := Op.call { callee := Callee.builtin Builtin.len, args := #[Operand.tmp 119], argTypes := #[22] }, type := 3, pos := "top02.go:65", after := #[{ on := 26, ground := Ground.data }, { on := 19, ground := Ground.guard }], guard := Option.some (19, Bool.false) }) (v := ?vc28z27) rfl (by kernel_rfl) (by kernel_rfl) (by kernel_rfl) (fun _ _ _ h => h) (YieldsM.of_if (Or.inl ⟨by rfl, ?hc28z27⟩)) ?rc28z27
          case hc28z27 => ((intro wz hSw; (try dsimp only at hSw); go_simp); try (with_reducible rfl))
          try simp only [Act.put, List.setIfInBounds_toArray, List.set_cons_zero, List.set_cons_succ]
          refine wpAnyM_take (i := 28) (oi := { dst := Option.some 121, op := Op.binOp BinOp.geq 3 (Operand.tmp 117) (Operand.tmp 120) 3, type := 4, pos := "top02.go:65", after := #[{ on := 24, ground := Ground.data }, { on := 27, ground := Ground.data }, { on := 19, ground := Ground.guard }], guard := Option.some (19, Bool.false) }) (v := ?vc29z28) rfl (by kernel_rfl) (by kernel_rfl) (by kernel_rfl) (fun _ _ _ h => h) (YieldsM.of_if (Or.inl ⟨by rfl, ?hc29z28⟩)) ?rc29z28
          case hc29z28 => ((intro wz hSw; (try dsimp only at hSw); go_simp); try (with_reducible rfl))
          try simp only [Act.put, List.setIfInBounds_toArray, List.set_cons_zero, List.set_cons_succ]
          refine wpAnyM_take (i := 29) (oi := { dst := Option.some 122, op := Op.pick (Operand.tmp 112) (Operand.const (Value.bool Bool.true)) (Operand.tmp 121), type := 4, pos := "top02.go:65", after := #[{ on := 19, ground := Ground.data }, { on := 28, ground := Ground.data }], guard := Option.none }) (v := ?vc30z29) rfl (by kernel_rfl) (by kernel_rfl) (by kernel_rfl) (fun _ _ _ h => h) (YieldsM.of_if (Or.inl ⟨by rfl, ?hc30z29⟩)) ?rc30z29
          case hc30z29 => ((intro wz hSw; (try dsimp only at hSw); go_simp); try (with_reducible rfl))
          try simp only [Act.put, List.setIfInBounds_toArray, List.set_cons_zero, List.set_cons_succ]
          refine wpAnyM_take (i := 30) (oi := { dst := Option.some 123, op := Op.move (Operand.tmp 122), type := 4, pos := "top02.go:65", after := #[{ on := 29, ground := Ground.data }, { on := 19, ground := Ground.chain }], guard := Option.none }) (v := ?vc31z30) rfl (by kernel_rfl) (by kernel_rfl) (by kernel_rfl) (fun _ _ _ h => h) (YieldsM.of_if (Or.inl ⟨by rfl, ?hc31z30⟩)) ?rc31z30
          case hc31z30 => ((intro wz hSw; (try dsimp only at hSw); go_simp); try (with_reducible rfl))
          try simp only [Act.put, List.setIfInBounds_toArray, List.set_cons_zero, List.set_cons_succ]
          refine wpAnyM_take (i := 31) (oi := { dst := Option.some 124, op := Op.fieldAddr 24 (Operand.tmp 11) 0, type := 0, pos := "top02.go:65", after := #[{ on := 30, ground := Ground.guard }], guard := Option.some (30, Bool.false) }) (v := ?vc32z31) rfl (by kernel_rfl) (by kernel_rfl) (by kernel_rfl) (fun _ _ _ h => h) (YieldsM.of_if (Or.inl ⟨by rfl, ?hc32z31⟩)) ?rc32z31
          case hc32z31 => ((intro wz hSw; (try dsimp only at hSw); go_simp); try (with_reducible rfl))
          try simp only [Act.put, List.setIfInBounds_toArray, List.set_cons_zero, List.set_cons_succ]
          refine wpAnyM_take (i := 32) (oi := { dst := Option.some 125, op := Op.load 3 (Operand.tmp 124), type := 3, pos := "top02.go:65", after := #[{ on := 31, ground := Ground.data }, { on := 30, ground := Ground.guard }], guard := Option.some (30, Bool.false) }) (v := ?vc33z32) rfl (by kernel_rfl) (by kernel_rfl) (by kernel_rfl) (fun _ _ _ h => h) (YieldsM.of_if (Or.inl ⟨by rfl, ?hc33z32⟩)) ?rc33z32
          case hc33z32 => ((intro wz hSw; (try dsimp only at hSw); go_simp); try (with_reducible rfl))
          try simp only [Act.put, List.setIfInBounds_toArray, List.set_cons_zero, List.set_cons_succ]
          refine wpAnyM_take (i := 33) (oi := { dst := Option.some 126, op := Op.binOp BinOp.lss 3 (Operand.tmp 125) (Operand.const (Value.int IntKind.i64 0)) 3, type := 4, pos := "top02.go:65", after := #[{ on := 32, ground := Ground.data }, { on := 30, ground := Ground.guard }], guard := Option.some (30, Bool.false) }) (v := ?vc34z33) rfl (by kernel_rfl) (by kernel_rfl) (by kernel_rfl) (fun _ _ _ h => h) (YieldsM.of_if (Or.inl ⟨by rfl, ?hc34z33⟩)) ?rc34z33
          case hc34z33 => ((intro wz hSw; (try dsimp only at hSw); go_simp); try (with_reducible rfl))
          try simp only [Act.put, List.setIfInBounds_toArray, List.set_cons_zero, List.set_cons_succ]
          refine wpAnyM_take (i := 34) (oi := { dst := Option.some 127, op := Op.pick (Operand.tmp 123) (Operand.const (Value.bool Bool.true)) (Operand.tmp 126), type := 4, pos := "top02.go:65", after := #[{ on := 30, ground := Ground.data }, { on := 33, ground := Ground.data }], guard := Option.none }) (v := ?vc35z34) rfl (by kernel_rfl) (by kernel_rfl) (by kernel_rfl) (fun _ _ _ h => h) (YieldsM.of_if (Or.inl ⟨by rfl, ?hc35z34⟩)) ?rc35z34
          case hc35z34 => ((intro wz hSw; (try dsimp only at hSw); go_simp); try (with_reducible rfl))
          try simp only [Act.put, List.setIfInBounds_toArray, List.set_cons_zero, List.set_cons_succ]
          refine wpAnyM_done (by kernel_rfl) ?_ _
          intro u9 hg9 hS9
          have H9 : Hid (Below y6.heap.size y6 u9) := hS9.2.2.2.2.2.out
          clear hg9 hS9
          obtain ⟨q0, q1, q2, q3, q4, _⟩ := HS.out u9 H9.out
          obtain ⟨hX9, hf9, _, hB9⟩ := HX6.out u9 H9.out
          by_cases hN0 : N = 0
          · have j6 : (N == 0) = true := by rw [beq_iff_eq]; exact hN0
            have hc7 := HFA.out.2.2.2.1 hN0
            have HI3 : Hid (Calls Tryz.prog 5 #[.iface 41 (.pointer (some ⟨b, 0, none⟩)), .iface 29 (.int .i64 7)] u9 fun ev w' => ev = .returned (.bool (c == 7)) ∧ w' = u9) := errorsIs_num [(4, (i : Int))] c 7 _ u9 ⟨b, _, rfl, hf9, rfl⟩
            have HB9 : Hid (Below w.heap.size w u9) := hB9
            clear hX9 hf9 hB9 hN0
            go_wp2_with fail
            refine HI3.out.mono ?_
            rintro e y8 ⟨rfl, rfl⟩
            have hcc : (c == 7) = true := by rw [beq_iff_eq]; exact hc7
            clear HI3
            go_wp2
            go_ret
            exact ⟨by first | rfl | rw [hcc] | simp [hc7], HB9.out⟩
          · have j6 : (N == 0) = false := by rw [beq_eq_false_iff_ne]; exact hN0
            have HMN : Hid (Mend N xs (k + 1) i (ys.set i (0, 0, 0))) := HM.out.next (by have := HFA.out.2.2.2.2; omega) HFA.out.1 HFA.out.2.2.1 hla
            have HTS : Hid (TL W1 N xs.length zc zB (some ⟨g, 0, none⟩) lc (ys.set i (0, 0, 0)) (((u9.setCell ⟨g, i * 3, none⟩ (.int .i64 0)).setCell ⟨g, i * 3 + 1, none⟩ (.int .i64 0)).setCell ⟨g, i * 3 + 2, none⟩ (.int .i64 0))) := hX9.set i
            have hil : i < xs.length := by have := HFA.out.1; omega
            have hig : (i : Int) < (xs.length : Int) := by omega
            have hi0 : (0 : Int) ≤ (i : Int) := by omega
            obtain ⟨e0, e1, e2, f0⟩ : (∃ v, u9.cell? ⟨g, i * 3, none⟩ = some v) ∧ (∃ v, u9.cell? ⟨g, i * 3 + 1, none⟩ = some v) ∧ (∃ v, u9.cell? ⟨g, i * 3 + 2, none⟩ = some v) ∧ ∀ o, u9.frozen? ⟨g, o, none⟩ = false := by
              have hr := hX9.row
              refine ⟨⟨_, (hr.cellAt (i * 3) (by omega)).trans (List.getElem?_eq_getElem (by rw [hr.1]; omega))⟩, ⟨_, (hr.cellAt (i * 3 + 1) (by omega)).trans (List.getElem?_eq_getElem (by rw [hr.1]; omega))⟩, ⟨_, (hr.cellAt (i * 3 + 2) (by omega)).trans (List.getElem?_eq_getElem (by rw [hr.1]; omega))⟩, fun o => ?_⟩
              rcases hr.2 with ⟨e, _⟩ | ⟨g', cap', cur, e, _, hg, _⟩
              · injection e with e1; cases e1
              · injection e with e1 e2 e3
                injection e1 with e1
                injection e1 with e1
                subst e1
                simp [World.frozen?, hg]
            obtain ⟨p0, e0⟩ := e0
            obtain ⟨p1, e1⟩ := e1
            obtain ⟨p2, e2⟩ := e2
            clear hX9 hf9 hB9 hN0
            go_wp2_with fail
            go_roundw
            case rel => exact ⟨k + 1, i, ys.set i (0, 0, 0), by go_num, rfl, HMN, HTS⟩
            case measure => simp only [intOf]; omega
  · have i1 : decide ((xs.length : Int) > 100) = true := by simp; omega
    clear HPR
    go_wp2
    go_ret
    exact ⟨rfl, (HK1.out _ HY1.out).2.2.2.2.2⟩
end Go.Proofs.YthgmhhlgjooeaaaGreatDoor.Gt
