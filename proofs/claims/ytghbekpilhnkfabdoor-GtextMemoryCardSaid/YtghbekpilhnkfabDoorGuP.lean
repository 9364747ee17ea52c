/- the law GtextMemory. -/
import Derived.Test.YtghbekpilhnkfabDoorGuD
import Derived.Test.YtghbekpilhnkfabDoorGuN
import Derived.Test.YtghbekpilhnkfabDoorGtY
import Derived.Test.YtghbekpilhnkfabDoorCsrKe
namespace Go.Proofs.YtghbekpilhnkfabDoor.Gt
open Go Go.Lib Go.RowKit Go.Extern Hi

attribute [local go_sem] Oper.semAt_some

theorem psG_short (t : By) : (psG t).2.length ≤ 262144 := by
  by_cases h : psE t = (0, [])
  · exact (psG_right h).2.1
  · have h2 : psG t = (0, []) := by
      unfold psE at h
      unfold psG
      split
      · rename_i h1
        rw [if_pos h1] at h
        by_cases h2 : (gR (rowsR t)).1.1 = 0
        · rw [if_pos h2] at h
          exact absurd rfl h
        · exact gR_bad h2
      · rfl
    rw [h2]
    exact Nat.zero_le _
theorem m_trans {w1 w2 w3 : World} {row : Option Nat} (h1 : w1.grownBy w2 row) (h2 : w2.grownBy w3 row) : w1.grownBy w3 row :=
  ⟨h2.os.trans h1.os, h2.tape.trans h1.tape, h2.output.trans h1.output, Nat.le_trans h1.size h2.size, fun k hk hr => (h2.block k (Nat.lt_of_lt_of_le hk h1.size) hr).trans (h1.block k hk hr)⟩
theorem m_alloc (w : World) (o : Obj) (row : Option Nat) : w.grownBy (w.alloc o) row := by
  have h : Below w.heap.size w (w.alloc o) := (Below.refl _ w).alloc (Nat.le_refl _) _
  exact ⟨rfl, rfl, rfl, h.size, fun k hk _ => h.block k hk⟩
theorem m_row {w w' : World} {B n : Nat} {s : Nat} {v : Value} {xs : List Value} {T : TypeId} (h : w.ownsRow B T s v n xs) (hb : Below w.heap.size w w') : w'.ownsRow B T s v n xs := by
  rcases h.2 with ⟨e, h0⟩ | ⟨g, cap, cur, e, hg, hh, r⟩
  · exact ⟨h.1, .inl ⟨e, h0⟩⟩
  · exact ⟨h.1, .inr ⟨g, cap, cur, e, hg, (hb.block g (Array.getElem?_eq_some_iff.1 hh).1).trans hh, r⟩⟩
theorem m_base {w : World} {B B' n s : Nat} {v : Value} {xs : List Value} {T : TypeId} (h : w.ownsRow B' T s v n xs) (hb : B ≤ B') : w.ownsRow B T s v n xs := by
  rcases h.2 with ⟨e, h0⟩ | ⟨g, cap, cur, e, hg, r⟩
  · exact ⟨h.1, .inl ⟨e, h0⟩⟩
  · exact ⟨h.1, .inr ⟨g, cap, cur, e, Nat.le_trans hb hg, r⟩⟩
theorem m_blk {w : World} {B n s : Nat} {v : Value} {xs : List Value} {T : TypeId} {k : Nat} (h : w.ownsRow B T s v n xs) (hk : v.ownBlock = some k) : B ≤ k ∧ ∃ c, w.heap[k]? = some (.cells c T) := by
  rcases h.2 with ⟨e, h0⟩ | ⟨g, cap, cur, e, hg, hh, r⟩
  · rw [e] at hk; cases hk
  · rw [e] at hk
    have : g = k := by simpa [Value.ownBlock] using hk
    subst this
    exact ⟨hg, _, hh⟩
theorem marks_len (xs : List Arc3) : (xs ++ marks).length = xs.length + 2 := by rw [List.length_append]; rfl
theorem full_arcs {w : World} {B sc : Nat} {g : Nat} {xs : List Arc3} (h : w.ownsRow B 42 3 (.slice (some ⟨g, 0, none⟩) (xs.length + 2) sc) (xs.length + 2) (flatC (xs ++ marks))) : HasArcs w (.slice (some ⟨g, 0, none⟩) (xs.length + 2) sc) (xs ++ marks) := by
  rw [← marks_len xs] at h ⊢
  exact arcs_of h
theorem sp_form {w : World} {B n sc : Nat} {so : Option Addr} {xs : List Value} {T : TypeId} (h : w.ownsRow B T 3 (.slice so n sc) n xs) (hn : 0 < n) : ∃ g, so = some ⟨g, 0, none⟩ ∧ n ≤ sc := by
  rcases h.2 with ⟨e, h0⟩ | ⟨g, c, cur, e, _, _, hle, _⟩
  · omega
  · injection e with e1 _ e3
    subst e3
    exact ⟨g, e1, hle⟩
theorem lit_zero {w : World} {g : Nat} (h : w.heap[g]? = some (.cells #[.int .i64 0, .int .i64 0, .int .i64 0, .int .i64 0, .int .i64 0, .int .i64 0] 42)) : ∀ j u, (acs [((0 : Int), (0 : Int), (0 : Int)), (0, 0, 0)])[j]? = some u → w.cell? ((⟨g, 0, none⟩ : Addr).add j) = some u := by
  intro j u hj
  have e9 : (⟨g, 0, none⟩ : Addr).add j = ⟨g, j, none⟩ := by
    by_cases h0 : j = 0
    · subst h0; rfl
    · simp [Addr.add, h0]
  rw [e9]
  simp only [World.cell?, h]
  have e8 : acs [((0 : Int), (0 : Int), (0 : Int)), (0, 0, 0)] = [.int .i64 0, .int .i64 0, .int .i64 0, .int .i64 0, .int .i64 0, .int .i64 0] := rfl
  rw [e8] at hj
  simpa using hj

set_option maxRecDepth 100000 in
set_option maxHeartbeats 16000000 in
theorem gmemory_calls (N : Int) (ao : Option Addr) (cap : Nat) (xs : List Arc3) (s : ByteArray) (w : World) (hl : HasArcs w (.slice ao xs.length cap) xs) (hno : ao = none → cap = 0) (hm : xs.length * 24 ≤ 140737488351232) (hs : s.size ≤ 281474976710656) (hT : TabW w) (hH : HasType w) :
    Calls Tryd.prog 3 #[.agg #[.int .i64 N, .slice ao xs.length cap], .string s] w fun e w' => e = .returned (.bool true) ∧ Below w.heap.size w w' := by
  have hml : xs.length ≤ maxLen := by unfold maxLen; omega
  obtain ⟨z, hz⟩ : ∃ z, w.heap.size = z := ⟨_, rfl⟩
  obtain ⟨W1, hW1⟩ : ∃ W1, w.alloc (.cells #[.int .i64 N, .slice ao xs.length cap] 24) = W1 := ⟨_, rfl⟩
  have HW1 : Hid (w.alloc (.cells #[.int .i64 N, .slice ao xs.length cap] 24) = W1) := hW1
  have n0 : W1.heap[z]? = some (.cells #[.int .i64 N, .slice ao xs.length cap] 24) := by rw [← hW1, ← hz]; exact heap_newG _ _
  have hb1 : Below w.heap.size w W1 := by rw [← hW1]; exact (Below.refl _ _).alloc (Nat.le_refl _) _
  have HK1 : Hid (∀ wx, Below W1.heap.size W1 wx → wx.cell? ⟨z, 0, none⟩ = some (.int .i64 N) ∧ wx.cell? ⟨z, 1, none⟩ = some (.slice ao xs.length cap) ∧ HasArcs wx (.slice ao xs.length cap) xs ∧ TabW wx ∧ HasType wx ∧ Below w.heap.size w wx) := fun wx hx => by
    have m := (hx.block _ (Array.getElem?_eq_some_iff.1 n0).1).trans n0
    have hb := hb1.trans (hx.mono hb1.size)
    exact ⟨by simp [World.cell?, m], by simp [World.cell?, m], hl.keep hb, hT.keep hb hT.lt, hH.keep hb hH.pos, hb⟩
  have HAW : Hid (Calls Tryd.prog 4 #[] W1 fun e w' => e = .returned (.bool true) ∧ Below W1.heap.size W1 w') := awake3_calls W1 (HK1.out W1 (Below.refl _ _)).2.2.2.1 (HK1.out W1 (Below.refl _ _)).2.2.2.2.1
  have HNO : Hid (ao = none → cap = 0) := hno
  clear hW1 n0 hb1 hT hH hl hno
  go_enter Tryd.func3, Tryd.ntmps3
  go_upto_region 1 with fail
  rw [HW1.out]
  try rw [hz]
  go_wp2_with fail
  refine HAW.out.mono ?_
  rintro e y1 ⟨rfl, hy1⟩
  have HY1 : Hid (Below W1.heap.size W1 y1) := hy1
  obtain ⟨c0, c1, hA1, _, _, _⟩ := HK1.out y1 hy1
  have hSP := spare_calls N ao cap xs y1 hA1 HNO.out hm
  have HSP : Hid (Calls Tryd.prog 5 #[.agg #[.int .i64 N, .slice ao xs.length cap]] y1 _) := hSP
  clear hy1 HAW hA1 hSP
  go_wp2_with fail
  refine HSP.out.mono ?_
  rintro e y2 ⟨so, sc, rfl, ho2, hy2⟩
  obtain ⟨g, rfl, hsc⟩ := sp_form ho2 (by omega)
  have hF2 := full_arcs ho2
  obtain ⟨zx, hzx⟩ : ∃ zx, y2.heap.size = zx := ⟨_, rfl⟩
  obtain ⟨W2, hW2⟩ : ∃ W2, y2.alloc (.cells #[.int .i64 N, .slice (some ⟨g, 0, none⟩) xs.length sc] 24) = W2 := ⟨_, rfl⟩
  have HW2 : Hid (y2.alloc (.cells #[.int .i64 N, .slice (some ⟨g, 0, none⟩) xs.length sc] 24) = W2) := hW2
  have n2 : W2.heap[zx]? = some (.cells #[.int .i64 N, .slice (some ⟨g, 0, none⟩) xs.length sc] 24) := by rw [← hW2, ← hzx]; exact heap_newG _ _
  have hb2 : Below y2.heap.size y2 W2 := by rw [← hW2]; exact (Below.refl _ _).alloc (Nat.le_refl _) _
  have h12 : Below W1.heap.size W1 W2 := btrG (btrG HY1.out hy2) hb2
  have HK2 : Hid (∀ wx, Below W2.heap.size W2 wx → wx.cell? ⟨z, 0, none⟩ = some (.int .i64 N) ∧ wx.cell? ⟨z, 1, none⟩ = some (.slice ao xs.length cap) ∧ wx.cell? ⟨zx, 0, none⟩ = some (.int .i64 N) ∧ wx.cell? ⟨zx, 1, none⟩ = some (.slice (some ⟨g, 0, none⟩) xs.length sc) ∧ HasArcs wx (.slice ao xs.length cap) xs ∧ HasArcs wx (.slice (some ⟨g, 0, none⟩) (xs.length + 2) sc) (xs ++ marks) ∧ HasArcs wx (.slice (some ⟨g, 0, none⟩) xs.length sc) xs ∧ TabW wx ∧ HasType wx ∧ Below w.heap.size w wx) := fun wx hx => by
    obtain ⟨g0, g1, g2, g3, g4, g5⟩ := HK1.out wx (btrG h12 hx)
    have m := (hx.block _ (Array.getElem?_eq_some_iff.1 n2).1).trans n2
    have hF := hF2.keep (btrG hb2 hx)
    exact ⟨g0, g1, by simp [World.cell?, m], by simp [World.cell?, m], g2, hF, arcs_front hF, g3, g4, g5⟩
  have HSC : Hid (xs.length + 2 ≤ sc) := hsc
  obtain ⟨d0, d1, e0, e1, _, _, hX, hTX, _, _⟩ := HK2.out W2 (Below.refl _ _)
  have HC1 : Hid (Calls Tryd.prog 6 #[.agg #[.int .i64 N, .slice (some ⟨g, 0, none⟩) xs.length sc]] W2 fun e w' => ∃ v, e = .returned v ∧ IsTold w' (graphErr N xs) v ∧ Below W2.heap.size W2 w') := check_calls N _ sc xs W2 hX hml
  clear ho2 hF2 hW2 n2 hb2 h12 hy2 HSP c0 c1 hX hTX hsc
  go_upto_region 4 with fail
  rw [HW2.out]
  try rw [hzx]
  go_wp2_with fail
  refine HC1.out.mono ?_
  rintro e y3 ⟨v3, rfl, _, hy3⟩
  have HY3 : Hid (Below W2.heap.size W2 y3) := hy3
  clear hy3 HC1 d0 d1 e0 e1
  obtain ⟨d0, d1, e0, e1, _, _, hX, hTX, _, _⟩ := HK2.out y3 HY3.out
  have HPR : Hid (Calls Tryd.prog 7 #[.agg #[.int .i64 N, .slice (some ⟨g, 0, none⟩) xs.length sc]] y3 (PrA N xs y3)) := print_calls N _ sc xs y3 hX hml hTX
  clear hX hTX
  go_wp2_with fail
  refine HPR.out.mono ?_
  rintro e y4 ⟨t, v4, rfl, ht, _, hy4⟩
  have HY4 : Hid (Below W2.heap.size W2 y4 ∧ bs t = prS N xs) := ⟨btrG HY3.out hy4, ht⟩
  clear hy4 ht HPR d0 d1 e0 e1
  obtain ⟨d0, d1, e0, e1, hX, _, _, hTX, _, _⟩ := HK2.out y4 HY4.out.1
  have HDP : Hid (Calls Tryd.prog 8 #[.agg #[.int .i64 N, .slice ao xs.length cap]] y4 (DrPA N xs y4)) := docPrint_calls N ao cap xs y4 hX hml hTX
  clear hX hTX
  go_wp2_with fail
  refine HDP.out.mono ?_
  rintro e y5 ⟨t2, lo, lc, rfl, ht2, _, hy5⟩
  obtain rfl : t = t2 := bs_inj (HY4.out.2.trans ht2.symm)
  obtain ⟨ze, hze⟩ : ∃ ze, y5.heap.size = ze := ⟨_, rfl⟩
  obtain ⟨E, hE⟩ : ∃ E, graphErr N xs = E := ⟨_, rfl⟩
  rw [hE]
  obtain ⟨W5, hW5⟩ : ∃ W5, y5.alloc (.cells #[.int .i64 E.1, .slice lo E.2.length lc] 35) = W5 := ⟨_, rfl⟩
  have HW5 : Hid (y5.alloc (.cells #[.int .i64 E.1, .slice lo E.2.length lc] 35) = W5) := hW5
  have hb5 : Below y5.heap.size y5 W5 := by rw [← hW5]; exact (Below.refl _ _).alloc (Nat.le_refl _) _
  have HY5 : Hid (Below W2.heap.size W2 W5) := btrG (btrG HY4.out.1 hy5) hb5
  clear hy5 ht2 hE hb5 hW5 HDP d0 d1 e0 e1
  obtain ⟨d0, d1, _, _, hX, hF, _, _, _, _⟩ := HK2.out W5 HY5.out
  have HKE : Hid (Calls Tryd.prog 9 #[.agg #[.int .i64 N, .slice ao xs.length cap], .slice (some ⟨g, 0, none⟩) (xs.length + 2) sc] W5 fun e w' => e = .returned (.bool true) ∧ Below W5.heap.size W5 w') := kept_calls N ao cap g sc xs W5 hX hF HSC.out hm
  clear hX hF
  go_upto_region 7 with fail
  rw [HW5.out]
  try rw [hze]
  go_wp2_with fail
  refine HKE.out.mono ?_
  rintro e y6 ⟨rfl, hy6⟩
  have HY6 : Hid (Below W2.heap.size W2 y6 ∧ Below w.heap.size w y6) := ⟨btrG HY5.out hy6, (HK2.out _ (btrG HY5.out hy6)).2.2.2.2.2.2.2.2.2⟩
  have HPA : Hid (Calls Tryd.prog 10 #[.string s] y6 (PsA (bs s) y6)) := parse_calls s y6 hs
  clear hy6 HKE d0 d1
  go_wp2_with fail
  refine HPA.out.mono ?_
  rintro e y7 ⟨v7, ro, rc, rfl, _, hy7, hownA⟩
  obtain ⟨n, A, hG⟩ : ∃ n A, psG (bs s) = (n, A) := ⟨_, _, rfl⟩
  have HG : Hid (psG (bs s) = (n, A)) := hG
  have hsh : A.length ≤ 262144 := by have := psG_short (bs s); rw [hG] at this; exact this
  rw [hG] at hownA ⊢
  simp only at hownA ⊢
  obtain ⟨za, hza⟩ : ∃ za, y7.heap.size = za := ⟨_, rfl⟩
  obtain ⟨Wa, hWa⟩ : ∃ Wa, y7.alloc (.cells #[.int .i64 (n : Int), .slice ro A.length rc] 24) = Wa := ⟨_, rfl⟩
  have HWa : Hid (y7.alloc (.cells #[.int .i64 (n : Int), .slice ro A.length rc] 24) = Wa) := hWa
  have na : Wa.heap[za]? = some (.cells #[.int .i64 (n : Int), .slice ro A.length rc] 24) := by rw [← hWa, ← hza]; exact heap_newG _ _
  have hba : Below y7.heap.size y7 Wa := by rw [← hWa]; exact (Below.refl _ _).alloc (Nat.le_refl _) _
  have HA : Hid (Wa.heap[za]? = some (.cells #[.int .i64 (n : Int), .slice ro A.length rc] 24) ∧ Wa.ownsRow w.heap.size 42 3 (.slice ro A.length rc) A.length (acs A) ∧ Below W2.heap.size W2 Wa ∧ za < Wa.heap.size ∧ Below w.heap.size w Wa) := ⟨na, m_row (m_base hownA HY6.out.2.size) hba, btrG (btrG HY6.out.1 hy7) hba, (Array.getElem?_eq_some_iff.1 na).1, btrG (btrG HY6.out.2 hy7) hba⟩
  have HPB : Hid (Calls Tryd.prog 10 #[.string s] Wa (PsA (bs s) Wa)) := parse_calls s Wa hs
  clear hownA hWa na hba hy7 HPA hG
  go_upto_region 10 with fail
  rw [HWa.out]
  try rw [hza]
  go_wp2_with fail
  refine HPB.out.mono ?_
  rintro e y8 ⟨v8, bo, bc, rfl, _, hy8, hownB⟩
  rw [HG.out] at hownB ⊢
  simp only at hownB ⊢
  obtain ⟨zb, hzb⟩ : ∃ zb, y8.heap.size = zb := ⟨_, rfl⟩
  obtain ⟨Wb, hWb⟩ : ∃ Wb, y8.alloc (.cells #[.int .i64 (n : Int), .slice bo A.length bc] 24) = Wb := ⟨_, rfl⟩
  have HWb : Hid (y8.alloc (.cells #[.int .i64 (n : Int), .slice bo A.length bc] 24) = Wb) := hWb
  have nb : Wb.heap[zb]? = some (.cells #[.int .i64 (n : Int), .slice bo A.length bc] 24) := by rw [← hWb, ← hzb]; exact heap_newG _ _
  have hbb : Below y8.heap.size y8 Wb := by rw [← hWb]; exact (Below.refl _ _).alloc (Nat.le_refl _) _
  have hab : Below Wa.heap.size Wa Wb := btrG hy8 hbb
  have hoA : Wb.ownsRow w.heap.size 42 3 (.slice ro A.length rc) A.length (acs A) := m_row HA.out.2.1 hab
  have hoB : Wb.ownsRow Wa.heap.size 42 3 (.slice bo A.length bc) A.length (acs A) := m_row hownB hbb
  have hbw : Below w.heap.size w Wb := btrG HA.out.2.2.2.2 hab
  have HFAR : Hid (∀ k, (Value.slice ro A.length rc).ownBlock = some k → w.heap.size ≤ k ∧ k < Wa.heap.size ∧ ∃ c, Wb.heap[k]? = some (.cells c 42)) := fun k hk => by
    obtain ⟨h1, c, h2⟩ := m_blk HA.out.2.1 hk
    obtain ⟨_, c2, h3⟩ := m_blk hoA hk
    exact ⟨h1, (Array.getElem?_eq_some_iff.1 h2).1, c2, h3⟩
  have HK : Hid (∀ wx, Wb.grownBy wx (Value.slice ro A.length rc).ownBlock → wx.cell? ⟨za, 0, none⟩ = some (.int .i64 (n : Int)) ∧ wx.cell? ⟨za, 1, none⟩ = some (.slice ro A.length rc) ∧ wx.cell? ⟨zb, 0, none⟩ = some (.int .i64 (n : Int)) ∧ wx.cell? ⟨zb, 1, none⟩ = some (.slice bo A.length bc) ∧ HasArcs wx (.slice bo A.length bc) A ∧ Below w.heap.size w wx) := fun wx hx => by
    have box : ∀ {q : Nat} {c : Array Value}, Wb.heap[q]? = some (.cells c 24) → wx.heap[q]? = some (.cells c 24) := fun {q c} hq => by
      refine (hx.block q (Array.getElem?_eq_some_iff.1 hq).1 fun e => ?_).trans hq
      obtain ⟨_, _, c2, h3⟩ := HFAR.out q e.symm
      rw [hq] at h3
      injection h3 with h3
      injection h3 with _ h3
      exact absurd h3 (by decide)
    have ma := box ((hab.block _ HA.out.2.2.2.1).trans HA.out.1)
    have mb := box nb
    refine ⟨by simp [World.cell?, ma], by simp [World.cell?, ma], by simp [World.cell?, mb], by simp [World.cell?, mb], ?_, ?_⟩
    · refine arcs_of (B := Wa.heap.size) (World.ownsRow.kept hoB hx ?_)
      cases hkb : (Value.slice bo A.length bc).ownBlock with
      | none => exact Or.inl rfl
      | some k =>
        right
        intro e
        have h1 := (m_blk hoB hkb).1
        have h2 := (HFAR.out k e.symm).2.1
        omega
    · exact hbw.grown hx hbw.size fun k hk => (HFAR.out k hk).1
  have HOA : Hid (Wb.ownsRow w.heap.size 42 3 (.slice ro A.length rc) A.length (acs A)) := hoA
  have HGA : Hid (Wb.grownBy Wb (Value.slice ro A.length rc).ownBlock) := World.grownBy.refl _ _
  have HBS : Hid (w.heap.size ≤ Wb.heap.size) := hbw.size
  obtain ⟨i0, hi9, hzz⟩ := Option.map_eq_some_iff.1 infoArc
  simp only [Prod.mk.injEq] at hzz
  have HI0 : Hid (Tryd.prog.info? 42 = some i0 ∧ i0.zero = some (.agg #[.int .i64 0, .int .i64 0, .int .i64 0]) ∧ i0.size = 3 ∧ i0.bytes = 24) := ⟨hi9, hzz⟩
  obtain ⟨d0, d1, e0, e1, _, _⟩ := HK.out Wb HGA.out
  clear hownB hWb nb hbb hab hoA hoB hbw hy8 HPB hi9 hzz
  go_upto_region 11 with fail
  rw [HWb.out]
  try rw [hzb]
  go_wp2_with fail
  clear d0 d1 e0 e1
  go_loopw [60] (fun iv wr => ∃ k : Nat, k ≤ A.length ∧ iv = .int .i64 k ∧ Hid (∃ zz, wr.ownsRow w.heap.size 42 3 (.slice ro A.length rc) A.length zz) ∧ Hid (Wb.grownBy wr (Value.slice ro A.length rc).ownBlock)) (fun iv _ => A.length - (intOf iv).toNat)
  case atStart => exact ⟨0, Nat.zero_le _, rfl, ⟨_, HOA.out⟩, HGA⟩
  case round =>
    obtain ⟨k, hk, rfl, HZ, HGR⟩ := hrel
    obtain ⟨zz, hoz⟩ := HZ.out
    obtain ⟨d0, d1, _, _, _, _⟩ := HK.out wr HGR.out
    rcases Nat.lt_or_eq_of_le hk with h1 | h1
    · obtain ⟨gm, hgm, hgl⟩ : ∃ gm, ro = some ⟨gm, 0, none⟩ ∧ gm < wr.heap.size := by
        obtain ⟨gm, cm, e, hbm, hlm⟩ := hoz.form (by omega)
        injection e with e1
        exact ⟨gm, e1, hlm⟩
      subst hgm
      have hzl : zz.length = A.length * 3 := hoz.1
      obtain ⟨x0, hx0⟩ : ∃ y, zz[k * 3]? = some y := ⟨_, List.getElem?_eq_getElem (by omega)⟩
      obtain ⟨x1, hx1⟩ : ∃ y, zz[k * 3 + 1]? = some y := ⟨_, List.getElem?_eq_getElem (by omega)⟩
      obtain ⟨x2, hx2⟩ : ∃ y, zz[k * 3 + 2]? = some y := ⟨_, List.getElem?_eq_getElem (by omega)⟩
      have c0 : wr.cell? ⟨gm, k * 3, none⟩ = some x0 := (hoz.cellAt (k * 3) (by omega)).trans hx0
      have c1 : wr.cell? ⟨gm, k * 3 + 1, none⟩ = some x1 := (hoz.cellAt (k * 3 + 1) (by omega)).trans hx1
      have c2 : wr.cell? ⟨gm, k * 3 + 2, none⟩ = some x2 := (hoz.cellAt (k * 3 + 2) (by omega)).trans hx2
      have f0 : wr.frozen? ⟨gm, k * 3, none⟩ = false := hoz.frozenAt _
      have f1 : wr.frozen? ⟨gm, k * 3 + 1, none⟩ = false := hoz.frozenAt _
      have f2 : wr.frozen? ⟨gm, k * 3 + 2, none⟩ = false := hoz.frozenAt _
      have s1 := hoz.stored (k * 3) (.int .i64 (-1))
      have s2 := s1.1.stored (k * 3 + 1) (.int .i64 0)
      have s3 := s2.1.stored (k * 3 + 2) (.int .i64 0)
      have HS3 : Hid (type_of% s3) := s3
      have HGN : Hid (Wb.grownBy (((wr.setCell ⟨gm, k * 3, none⟩ (.int .i64 (-1))).setCell ⟨gm, k * 3 + 1, none⟩ (.int .i64 0)).setCell ⟨gm, k * 3 + 2, none⟩ (.int .i64 0)) (Value.slice (some ⟨gm, 0, none⟩) A.length rc).ownBlock) := m_trans HGR.out (m_trans s1.2 (m_trans s2.2 s3.2))
      have i1 : decide ((k : Int) < (A.length : Int)) = true := by simp; omega
      have i2 : (0 : Int) ≤ (k : Int) := by omega
      have i3 : (k : Int) < (A.length : Int) := by omega
      clear hoz hx0 hx1 hx2 hzl s1 s2 s3
      go_wp2_with fail
      go_roundw
      case rel => exact ⟨k + 1, by omega, by rw [show (k : Int) + 1 = ((k + 1 : Nat) : Int) by omega], ⟨_, HS3.out.1⟩, HGN⟩
      case measure => simp only [intOf]; omega
    · have i1 : decide ((k : Int) < (A.length : Int)) = false := by simp; omega
      have HOZ : Hid (wr.ownsRow w.heap.size 42 3 (.slice ro A.length rc) A.length zz) := hoz
      have HWS : Hid (w.heap.size ≤ wr.heap.size) := Nat.le_trans HBS.out HGR.out.size
      subst h1
      clear hoz
      go_wp2_with (at_builtin; refine wpList_append_own _ rfl _ _ 22 rfl w.heap.size 42 i0 (.agg #[.int .i64 0, .int .i64 0, .int .i64 0]) 3 24 Tryd.underlying22 HI0.out.1 HI0.out.2.1 HI0.out.2.2.1 HI0.out.2.2.2 rfl (by decide) _ A.length zz rfl (m_row HOZ.out ((Below.refl _ wr).alloc (Nat.le_refl _) _)) ⟨wr.heap.size, 0, none⟩ 2 2 (acs [((0 : Int), (0 : Int), (0 : Int)), (0, 0, 0)]) rfl rfl (lit_zero (heap_newG _ _)) (acs_one _) (by unfold maxLen; omega) (by omega) (by have := HWS.out; simp; omega) ?_; intro v5 w5 hown5 hgr5 _; have HG5 : Hid (Wb.grownBy w5 (Value.slice ro A.length rc).ownBlock) := m_trans HGR.out (m_trans (m_alloc wr _ _) hgr5); obtain ⟨po, pc, hv5⟩ := slice_ofG hown5; subst hv5; obtain ⟨q0, q1, _, _, _, _⟩ := HK.out w5 HG5.out; have j1 : ((((A.length + 2 : Nat) : Int)) != (A.length : Int) + 2) = false := (by simp); clear hown5 hgr5 d0 d1)
      have HDC : Hid (Calls Tryd.prog 11 #[.string s] w5 (DpA (bs s) w5)) := docParse_calls s w5 hs
      refine HDC.out.mono ?_
      rintro e y9 ⟨u, co, cc, rfl, ⟨l9, c9, rfl, hp⟩, hy9, hownC⟩
      rw [HG.out] at hownC ⊢
      simp only at hownC ⊢
      have hC := arcs_of hownC
      obtain ⟨E9, hE9⟩ : ∃ E, psE (bs s) = E := ⟨_, rfl⟩
      rw [hE9] at hp ⊢
      obtain ⟨_, _, _, _, hB5, hw5⟩ := HK.out w5 HG5.out
      obtain ⟨z2, hz2⟩ : ∃ z2, y9.heap.size = z2 := ⟨_, rfl⟩
      obtain ⟨z3, hz3⟩ : ∃ z3, z2 + 1 = z3 := ⟨_, rfl⟩
      obtain ⟨AX, hAA⟩ : ∃ AX, (y9.alloc (.cells #[.int .i64 0, .slice none 0 0] 24)).alloc (.cells #[.int .i64 0, .slice none 0 0] 35) = AX := ⟨_, rfl⟩
      have a5 : AX.heap[z2]? = some (.cells #[.int .i64 0, .slice none 0 0] 24) := by rw [← hAA, ← hz2]; exact (Below.heap_alloc _ _ _ (by simp)).trans (heap_newG _ _)
      have a6 : AX.heap[z3]? = some (.cells #[.int .i64 0, .slice none 0 0] 35) := by
        have q := heap_newG (y9.alloc (.cells #[.int .i64 0, .slice none 0 0] 24)) (.cells #[.int .i64 0, .slice none 0 0] 35)
        rw [World.size_alloc, hz2, hz3, hAA] at q
        exact q
      have hbA : Below y9.heap.size y9 AX := by rw [← hAA]; exact ((Below.refl _ _).alloc (Nat.le_refl _) _).alloc (by simp) _
      obtain ⟨BX, hB⟩ : ∃ BX, (AX.setCell ⟨z2, 0, none⟩ (.int .i64 (n : Int))).setCell ⟨z2, 1, none⟩ (.slice co A.length cc) = BX := ⟨_, rfl⟩
      obtain ⟨W5x, hW5⟩ : ∃ W5x, (BX.setCell ⟨z3, 0, none⟩ (.int .i64 E9.1)).setCell ⟨z3, 1, none⟩ (.slice l9 E9.2.length c9) = W5x := ⟨_, rfl⟩
      obtain ⟨kB, oB⟩ := set_far hbA (by omega : y9.heap.size ≤ z2) (.int .i64 (n : Int)) (.slice co A.length cc)
      have b5 : BX.heap[z2]? = some (.cells #[.int .i64 (n : Int), .slice co A.length cc] 24) := by rw [← hB]; exact set_twoG a5 _ _
      have b6 : BX.heap[z3]? = some (.cells #[.int .i64 0, .slice none 0 0] 35) := by rw [← hB]; exact (oB z3 (by omega)).trans a6
      rw [hB] at kB
      obtain ⟨hb5, oW⟩ := set_far kB (by omega : y9.heap.size ≤ z3) (.int .i64 E9.1) (.slice l9 E9.2.length c9)
      have m5 : W5x.heap[z2]? = some (.cells #[.int .i64 (n : Int), .slice co A.length cc] 24) := by rw [← hW5]; exact (oW z2 (by omega)).trans b5
      have m6 : W5x.heap[z3]? = some (.cells #[.int .i64 E9.1, .slice l9 E9.2.length c9] 35) := by rw [← hW5]; exact set_twoG b6 _ _
      rw [hW5] at hb5
      have HAW2 : Hid ((y9.alloc (.cells #[.int .i64 0, .slice none 0 0] 24)).alloc (.cells #[.int .i64 0, .slice none 0 0] 35) = AX ∧ (AX.setCell ⟨z2, 0, none⟩ (.int .i64 (n : Int))).setCell ⟨z2, 1, none⟩ (.slice co A.length cc) = BX ∧ (BX.setCell ⟨z3, 0, none⟩ (.int .i64 E9.1)).setCell ⟨z3, 1, none⟩ (.slice l9 E9.2.length c9) = W5x) := ⟨hAA, hB, hW5⟩
      have f0 : ((y9.alloc (.cells #[.int .i64 0, .slice none 0 0] 24)).alloc (.cells #[.int .i64 0, .slice none 0 0] 35)).cell? ⟨z2, 0, none⟩ = some (.int .i64 0) := by rw [hAA]; simp [World.cell?, a5]
      have f1 : ((y9.alloc (.cells #[.int .i64 0, .slice none 0 0] 24)).alloc (.cells #[.int .i64 0, .slice none 0 0] 35)).cell? ⟨z2, 1, none⟩ = some (.slice none 0 0) := by rw [hAA]; simp [World.cell?, a5]
      have f2 : ((y9.alloc (.cells #[.int .i64 0, .slice none 0 0] 24)).alloc (.cells #[.int .i64 0, .slice none 0 0] 35)).frozen? ⟨z2, 0, none⟩ = false := by rw [hAA]; simp [World.frozen?, a5]
      have f3 : ((y9.alloc (.cells #[.int .i64 0, .slice none 0 0] 24)).alloc (.cells #[.int .i64 0, .slice none 0 0] 35)).frozen? ⟨z2, 1, none⟩ = false := by rw [hAA]; simp [World.frozen?, a5]
      have f4 : ((y9.alloc (.cells #[.int .i64 0, .slice none 0 0] 24)).alloc (.cells #[.int .i64 0, .slice none 0 0] 35)).cell? ⟨z3, 0, none⟩ = some (.int .i64 0) := by rw [hAA]; simp [World.cell?, a6]
      have f5 : ((y9.alloc (.cells #[.int .i64 0, .slice none 0 0] 24)).alloc (.cells #[.int .i64 0, .slice none 0 0] 35)).cell? ⟨z3, 1, none⟩ = some (.slice none 0 0) := by rw [hAA]; simp [World.cell?, a6]
      have f6 : ((y9.alloc (.cells #[.int .i64 0, .slice none 0 0] 24)).alloc (.cells #[.int .i64 0, .slice none 0 0] 35)).frozen? ⟨z3, 0, none⟩ = false := by rw [hAA]; simp [World.frozen?, a6]
      have f7 : ((y9.alloc (.cells #[.int .i64 0, .slice none 0 0] 24)).alloc (.cells #[.int .i64 0, .slice none 0 0] 35)).frozen? ⟨z3, 1, none⟩ = false := by rw [hAA]; simp [World.frozen?, a6]
      have hzz : z2 ≠ z3 := by omega
      have hzz2 : z3 ≠ z2 := by omega
      have HZB : Hid (Below w5.heap.size w5 W5x) := btrG hy9 hb5
      have mb5 : ∀ wx, Below w5.heap.size w5 wx → wx.cell? ⟨zb, 0, none⟩ = some (.int .i64 (n : Int)) ∧ wx.cell? ⟨zb, 1, none⟩ = some (.slice bo A.length bc) := fun wx hx => by
        obtain ⟨_, _, r0, r1, _, _⟩ := HK.out w5 HG5.out
        have hlt : zb < w5.heap.size := by
          rcases Nat.lt_or_ge zb w5.heap.size with h | h
          · exact h
          · simp only [World.cell?, Array.getElem?_eq_none h] at r0
            cases r0
        exact ⟨(hx.cell (p := ⟨zb, 0, none⟩) hlt).trans r0, (hx.cell (p := ⟨zb, 1, none⟩) hlt).trans r1⟩
      obtain ⟨r0, r1⟩ := mb5 W5x HZB.out
      have d0 : W5x.cell? ⟨z2, 0, none⟩ = some (.int .i64 (n : Int)) := by simp [World.cell?, m5]
      have d1 : W5x.cell? ⟨z2, 1, none⟩ = some (.slice co A.length cc) := by simp [World.cell?, m5]
      have HSM : Hid (Calls Tryd.prog 12 #[.agg #[.int .i64 (n : Int), .slice bo A.length bc], .agg #[.int .i64 (n : Int), .slice co A.length cc]] W5x fun e w' => e = .returned (.bool true) ∧ Below W5x.heap.size W5x w') := same_yes n _ _ _ _ _ _ A W5x (hB5.keep HZB.out) (hC.keep hb5) (by unfold maxLen; omega)
      have HW9 : Hid (Below w.heap.size w W5x) := hw5.trans (HZB.out.mono hw5.size)
      clear hp hownC hC hW5 m5 m6 hb5 hy9 HDC hAA hB a5 a6 b5 b6 kB oB oW hbA hB5 hw5 mb5 hE9
      go_upto_region 20 with fail
      rw [HAW2.out.1, HAW2.out.2.1, HAW2.out.2.2]
      go_wp2_with fail
      refine HSM.out.mono ?_
      rintro e y10 ⟨rfl, hy10⟩
      have H10 : Hid (Below w.heap.size w y10) := btrG HW9.out hy10
      clear hy10
      go_wp2
      go_ret
      exact ⟨rfl, H10.out⟩
end Go.Proofs.YtghbekpilhnkfabDoor.Gt
