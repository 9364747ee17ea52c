/- viaductref08.From at right arrays: the distances. -/
import Derived.Test.YtnkfggccahohpabSrM
import Derived.Test.YtnkfggccahohpabSeD
import Derived.Test.YtnkfggccahohpabSrG
import Derived.BigQuiet
import Derived.BigRegion
namespace Go.Proofs.Ytnkfggccahohpab
open Go.RowKit Go.Extern

attribute [local go_sem] Oper.semAt_some

/-- the sum of a row of numbers. -/
def sumAt (w : World) (b : Nat) : Nat := match w.heap[b]? with
  | some (.cells c _ _) => (c.toList.map intOf).sum.toNat
  | _ => 0
theorem sumAt_of {w : World} {b : Nat} {D : List Int} (h : U64s w b D) : sumAt w b = D.sum.toNat := by
  unfold sumAt
  rw [show w.heap[b]? = _ from h]
  have : (D.map (Value.int IntKind.u64)).map intOf = D := by
    rw [List.map_map]
    exact List.map_id' D
  simp only [this]
/-- a truth as a number. -/
def bitOf : Value → Nat
  | .bool true => 1
  | _ => 0
/-- filled so far. -/
def filled (n k : Nat) : List Int := List.replicate k farN ++ List.replicate (n - k) 0
theorem filled_len {n k : Nat} (h : k ≤ n) : (filled n k).length = n := by unfold filled; rw [List.length_append, List.length_replicate, List.length_replicate]; omega
theorem filled_next {n k : Nat} (h : k < n) : (filled n k).set k farN = filled n (k + 1) := by
  unfold filled
  apply List.ext_getElem?
  intro i
  rw [List.getElem?_set, List.length_append, List.length_replicate, List.length_replicate, List.getElem?_append, List.getElem?_append, List.length_replicate, List.length_replicate, List.getElem?_replicate, List.getElem?_replicate, List.getElem?_replicate, List.getElem?_replicate]
  by_cases e : k = i
  · subst e
    rw [if_pos rfl, if_pos (by omega), if_pos (by omega), if_pos (by omega)]
  · rw [if_neg e]
    by_cases h1 : i < k
    · rw [if_pos h1, if_pos h1, if_pos (by omega), if_pos (by omega)]
    · rw [if_neg h1, if_neg (show ¬ i < k + 1 by omega)]
      by_cases h2 : i < n
      · rw [if_pos (by omega), if_pos (by omega)]
      · rw [if_neg (by omega), if_neg (by omega)]
theorem filled_all (n : Nat) : filled n n = List.replicate n farN := by unfold filled; simp
theorem BF.nonneg {n : Nat} {zs : List (Int × Int × Int)} {s : Nat} {D : List Int} (h : BF n zs s D) : 0 ≤ D.sum := by
  have : ∀ x ∈ D, 0 ≤ x := fun x hx => by
    obtain ⟨i, hi⟩ := List.getElem?_of_mem hx
    rcases h.ok i x hi with e | e
    · rw [e, farN_is]; omega
    · exact e.1
  exact (show ∀ l : List Int, (∀ x ∈ l, 0 ≤ x) → 0 ≤ l.sum from fun l => by
    induction l with
    | nil => intro _; simp
    | cons a t ih =>
      intro hh
      have h1 := hh a (by simp)
      have h2 := ih (fun x hx => hh x (by simp [hx]))
      rw [List.sum_cons]
      omega) D this
/-- how far a pass over the arcs has come. -/
def Pass (zs : List (Int × Int × Int)) (D0 D : List Int) (k : Nat) (t : Bool) : Prop := (t = false ∧ D = D0 ∧ ∀ i a, i < k → zs[i]? = some a → Tight D0 a) ∨ (t = true ∧ D.sum < D0.sum)

set_option maxRecDepth 100000 in
set_option maxHeartbeats 16000000 in
theorem rFrom_calls (n : Nat) (zs : List (Int × Int × Int)) (fo uo wo : Option Addr) (fc tc wc : Nat) (w : World) (hz : Fine n zs) (h : CsrIn w n zs fo uo wo fc tc wc) (s : Nat) (hs : s < n) :
    Calls Try.prog 32 #[.agg #[.slice fo (n + 1) fc, .slice uo zs.length tc, .slice wo zs.length wc], .int .i64 s] w fun e w' => ∃ db D, e = .returned (.slice (some ⟨db, 0, none⟩) n n) ∧ IsDist n zs s D ∧ U64s w' db D ∧ Below w.heap.size w w' := by
  have hn := hz.few
  have hm := hz.short
  obtain ⟨W0, hW0⟩ : ∃ W0, w.alloc (.cells #[.slice fo (n + 1) fc, .slice uo zs.length tc, .slice wo zs.length wc] 24) = W0 := ⟨_, rfl⟩
  have HW0 : Hid (w.alloc (.cells #[.slice fo (n + 1) fc, .slice uo zs.length tc, .slice wo zs.length wc] 24) = W0) := hW0
  have hB0 : Below w.heap.size w W0 := by rw [← hW0]; exact (Below.refl _ w).alloc (Nat.le_refl _) _
  have HRG : Hid (Calls Try.prog 54 #[.agg #[.slice fo (n + 1) fc, .slice uo zs.length tc, .slice wo zs.length wc]] W0 fun e w' => ∃ lo lc, e = .returned (.agg #[.int .i64 n, .slice lo zs.length lc]) ∧ HasArcs w' (.slice lo zs.length lc) zs ∧ Below W0.heap.size W0 w') := by
    refine (rGraph_calls n zs fo uo wo fc tc wc W0 hz (h.keep hB0)).mono ?_
    rintro e w' ⟨lo, lc, he, ho, hb⟩
    exact ⟨lo, lc, he, arcs_of_rowC ho, hb⟩
  have HB0 : Hid (Below w.heap.size w W0) := hB0
  have HZ : Hid (Fine n zs) := hz
  have hmk := run_make_row' (P := Try.prog) 29 42 (.int .u64 0) 8 Try.underlying29 infoU rfl .i64 .i64 n (by omega) (by omega)
  have hsi : (s : Int) < (n : Int) := by omega
  have hsi2 : (0 : Int) ≤ (s : Int) := by omega
  clear hW0 hB0 h hz
  go_enter Try.func32, Try.ntmps32
  go_wp2_with fail
  rw [HW0.out]
  refine HRG.out.mono ?_
  rintro e w1 ⟨lo, lc, rfl, hA, hb⟩
  have H1 : Hid (HasArcs w1 (.slice lo zs.length lc) zs ∧ Below w.heap.size w w1) := ⟨hA, btr HB0.out hb⟩
  clear hA hb HRG
  go_wp2_with fail
  obtain ⟨W1, hW1⟩ : ∃ W1, (w1.alloc (.cells #[.int .i64 n, .slice lo zs.length lc] 90)).alloc (.cells (madeCells #[.int .u64 0] n) 42) = W1 := ⟨_, rfl⟩
  have HW1 : Hid ((w1.alloc (.cells #[.int .i64 n, .slice lo zs.length lc] 90)).alloc (.cells (madeCells #[.int .u64 0] n) 42) = W1) := hW1
  have hB1 : Below w1.heap.size w1 W1 := by rw [← hW1]; exact ((Below.refl _ w1).alloc (Nat.le_refl _) _).alloc (by simp) _
  have hU : U64s W1 (w1.heap.size + 1) (List.replicate n 0) := by
    have := made_u64s (w1.alloc (.cells #[.int .i64 n, .slice lo zs.length lc] 90)) n
    rw [hW1] at this
    simpa using this
  have hGb : W1.heap[w1.heap.size]? = some (.cells #[.int .i64 n, .slice lo zs.length lc] 90) := by
    rw [← hW1, Below.heap_alloc _ _ _ (by simp), heap_new]
  have HK : Hid (∀ wx, Below (w1.heap.size + 1) W1 wx → (wx.cell? ⟨w1.heap.size, 0, none⟩ = some (.int .i64 n) ∧ wx.cell? ⟨w1.heap.size, 1, none⟩ = some (.slice lo zs.length lc) ∧ w1.heap.size < wx.heap.size) ∧ HasArcs wx (.slice lo zs.length lc) zs ∧ Below w.heap.size w wx) := fun wx hx => by
    have hg := (hx.block _ (by omega)).trans hGb
    have hb : Below w1.heap.size w1 wx := hB1.trans (hx.mono (by omega))
    exact ⟨⟨(cell_two hg).1, (cell_two hg).2.1, lt_of_get hg⟩, H1.out.1.keep hb, btr H1.out.2 hb⟩
  have HU : Hid (U64s W1 (w1.heap.size + 1) (filled n 0)) := by
    show U64s _ _ _
    rw [show filled n 0 = List.replicate n 0 by unfold filled; simp]
    exact hU
  rw [HW1.out]
  clear hW1 hB1 hU hGb
  obtain ⟨gb, hgb⟩ : ∃ gb, w1.heap.size = gb := ⟨_, rfl⟩
  rw [hgb] at HK HU ⊢
  have HGB : Hid (w1.heap.size = gb) := hgb
  clear hgb
  obtain ⟨db, hdb⟩ : ∃ db, gb + 1 = db := ⟨_, rfl⟩
  rw [hdb] at HK HU ⊢
  have HDB : Hid (gb + 1 = db) := hdb
  clear hdb
  go_loopw [18] (fun iv wr => ∃ k : Nat, k ≤ n ∧ iv = .int .i64 k ∧ Below db W1 wr ∧ U64s wr db (filled n k)) (fun iv _ => n - (intOf iv).toNat)
  case atStart => exact ⟨0, by omega, rfl, Below.refl _ _, HU.out⟩
  case round =>
    obtain ⟨k, hk, rfl, hb, hU⟩ := hrel
    have G : Hid (Below db W1 wr ∧ U64s wr db (filled n k)) := ⟨hb, hU⟩
    clear hb hU
    by_cases hlt : k < n
    · obtain ⟨x, hx⟩ : ∃ x, (filled n k)[k]? = some x := ⟨(filled n k)[k]'(by rw [filled_len hk]; exact hlt), List.getElem?_eq_getElem _⟩
      obtain ⟨c1, c2, c3⟩ := G.out.2.at hx
      have HNX : Hid (Below db W1 (wr.setCell ⟨db, k, none⟩ (.int .u64 18446744073709551615)) ∧ U64s (wr.setCell ⟨db, k, none⟩ (.int .u64 18446744073709551615)) db (filled n (k + 1))) := ⟨G.out.1.setCell (Nat.le_refl _) _, by rw [← filled_next hlt, farN_is]; exact G.out.2.set k 18446744073709551615⟩
      have i1 : (k : Int) < (n : Int) := by omega
      have i2 : (0 : Int) ≤ (k : Int) := by omega
      clear hx
      go_wp2
      go_roundw
      case rel => exact ⟨k + 1, by omega, by go_num, HNX.out⟩
      case measure => simp [intOf]; omega
    · obtain rfl : k = n := by omega
      have hfs : (filled k k)[s]? = some farN := by rw [filled_all, List.getElem?_replicate, if_pos hs]
      obtain ⟨c1, c2, c3⟩ := G.out.2.at hfs
      obtain ⟨W2, hW2⟩ : ∃ W2, wr.setCell ⟨db, s, none⟩ (.int .u64 0) = W2 := ⟨_, rfl⟩
      have HW2 : Hid (wr.setCell ⟨db, s, none⟩ (.int .u64 0) = W2) := hW2
      have H2 : Hid (Below db W1 W2 ∧ ∃ D, U64s W2 db D ∧ BF k zs s D) := ⟨by rw [← hW2]; exact G.out.1.setCell (Nat.le_refl _) _, _, by rw [← hW2]; exact G.out.2.set s 0, by rw [filled_all]; exact BF.start hs⟩
      clear hfs hW2
      go_wp2_with fail
      rw [HW2.out]
      clear HW2
      go_loopw [8] (fun tv wr => ∃ (t : Bool) (D : List Int), tv = .bool t ∧ Below db W1 wr ∧ U64s wr db D ∧ BF k zs s D ∧ (t = false → ∀ a ∈ zs, Tight D a)) (fun tv wr => 2 * sumAt wr db + bitOf tv)
      case atStart =>
        obtain ⟨h1, D, h2, h3⟩ := H2.out
        exact ⟨true, D, rfl, h1, h2, h3, fun e => by cases e⟩
      case round =>
        obtain ⟨t, D, rfl, hb, hU, hBF, hT⟩ := hrel
        clear c1 c2 c3
        cases t with
        | false =>
          have HE : Hid (∃ D, IsDist k zs s D ∧ U64s wr db D ∧ Below w.heap.size w wr) := ⟨D, hBF.dist HZ.out (hT rfl), hU, (HK.out wr hb).2.2⟩
          clear hb hU hBF hT
          go_wp2_with fail
          go_ret
          obtain ⟨D, h1, h2, h3⟩ := HE.out
          exact ⟨db, D, rfl, h1, h2, h3⟩
        | true =>
          clear hT
          have HS : Hid (sumAt wr db = D.sum.toNat) := sumAt_of hU
          have H3 : Hid (Below db W1 wr ∧ U64s wr db D ∧ BF k zs s D) := ⟨hb, hU, hBF⟩
          obtain ⟨⟨d0, d1, ds⟩, _, _⟩ := HK.out wr hb
          clear hb hU hBF
          generalize hwr : wr = w2 at *
          clear hwr
          go_wp2_with fail
          go_loopw [8, 32] (fun tv iv wr => ∃ (i : Nat) (t : Bool) (D' : List Int), i ≤ zs.length ∧ iv = .int .i64 i ∧ tv = .bool t ∧ Below db W1 wr ∧ U64s wr db D' ∧ BF k zs s D' ∧ Pass zs D D' i t) (fun _ iv _ => zs.length - (intOf iv).toNat)
          case atStart => exact ⟨0, false, D, by omega, rfl, rfl, H3.out.1, H3.out.2.1, H3.out.2.2, Or.inl ⟨rfl, rfl, fun i a h => by omega⟩⟩
          case round =>
            obtain ⟨i, t, D', hi, rfl, rfl, hb, hU, hBF, hP⟩ := hrel
            clear d0 d1 ds
            have H4 : Hid (Below db W1 wr ∧ U64s wr db D' ∧ BF k zs s D' ∧ Pass zs D D' i t) := ⟨hb, hU, hBF, hP⟩
            clear hb hU hBF hP
            by_cases hlt : i < zs.length
            · obtain ⟨⟨a0, a1, r⟩, ha⟩ : ∃ a, zs[i]? = some a := ⟨zs[i], List.getElem?_eq_getElem hlt⟩
              obtain ⟨n1, n2, n3, n4, n5, n6, n7⟩ := HZ.out.ends _ (List.mem_of_getElem? ha)
              simp only at n1 n2 n3 n4 n5 n6 n7
              obtain ⟨p, rfl⟩ := Int.eq_ofNat_of_zero_le n1
              obtain ⟨q, rfl⟩ := Int.eq_ofNat_of_zero_le n3
              obtain ⟨b, off, hlo, hbl, e0, e1, e2⟩ := (HK.out wr H4.out.1).2.1.at ha
              subst hlo
              simp only at e0 e1 e2
              obtain ⟨x, hx⟩ : ∃ x, D'[p]? = some x := ⟨D'[p]'(by rw [H4.out.2.2.1.len]; omega), List.getElem?_eq_getElem _⟩
              obtain ⟨y, hy⟩ : ∃ y, D'[q]? = some y := ⟨D'[q]'(by rw [H4.out.2.2.1.len]; omega), List.getElem?_eq_getElem _⟩
              have HA : Hid (zs[i]? = some ((p : Int), (q : Int), r)) := ha
              have HX : Hid (D'[p]? = some x ∧ D'[q]? = some y) := ⟨hx, hy⟩
              have hyb : 0 ≤ y ∧ y ≤ 18446744073709551615 := by
                rcases H4.out.2.2.1.ok q y hy with e | ⟨h1, h2, _⟩
                · rw [e, farN_is]; omega
                · have := cntD_le D'
                  rw [H4.out.2.2.1.len] at this
                  omega
              have hxb : x ≠ farN → 0 ≤ x ∧ x ≤ 140737488355328 := fun e => H4.out.2.2.1.bound hn hx e
              obtain ⟨W3, hW3⟩ : ∃ W3, wr.alloc (.cells #[.int .i64 p, .int .i64 q, .int .i64 r] 87) = W3 := ⟨_, rfl⟩
              have HW3 : Hid (wr.alloc (.cells #[.int .i64 p, .int .i64 q, .int .i64 r] 87) = W3) := hW3
              obtain ⟨bx, hbx⟩ : ∃ bx, wr.heap.size = bx := ⟨_, rfl⟩
              have HBX : Hid (wr.heap.size = bx) := hbx
              have hbox : W3.heap[bx]? = some (.cells #[.int .i64 p, .int .i64 q, .int .i64 r] 87) := by rw [← hW3, ← hbx]; exact heap_new _ _
              have hB3 : Below wr.heap.size wr W3 := by rw [← hW3]; exact (Below.refl _ wr).alloc (Nat.le_refl _) _
              have HKA : Hid (∀ wx, Below W3.heap.size W3 wx → ((wx.cell? ⟨bx, 0, none⟩ = some (.int .i64 p) ∧ wx.cell? ⟨bx, 1, none⟩ = some (.int .i64 q) ∧ wx.cell? ⟨bx, 2, none⟩ = some (.int .i64 r)) ∧ bx < wx.heap.size) ∧ U64s wx db D' ∧ Below db W1 wx) := fun wx h => by
                have g := (h.block _ (lt_of_get hbox)).trans hbox
                have hb2 : Below wr.heap.size wr wx := hB3.trans (h.mono hB3.size)
                exact ⟨⟨⟨by simp [World.cell?, g], by simp [World.cell?, g], by simp [World.cell?, g]⟩, lt_of_get g⟩, (hb2.block _ (lt_of_get H4.out.2.1)).trans H4.out.2.1, H4.out.1.trans (hb2.mono (Nat.le_of_lt (lt_of_get H4.out.2.1)))⟩
              have i1 : (p : Int) < (k : Int) := n2
              have i2 : (q : Int) < (k : Int) := n4
              have i3 : (0 : Int) ≤ (p : Int) := by omega
              have i4 : (0 : Int) ≤ (q : Int) := by omega
              have i5 : (i : Int) < (zs.length : Int) := by omega
              have i6 : (0 : Int) ≤ (i : Int) := by omega
              have i7 : IntKind.u64.wrap r = r := by rw [IntKind.wrap_u64] <;> omega
              clear hx hy ha hW3 hbox hB3 n1 n2 n3 n4
              have hes : b < wr.heap.size := hbl
              have HNS : Hid (0 ≤ r ∧ r ≤ 2147483647) := ⟨n6, n7⟩
              have HPQ : Hid (p ≠ q) := fun e => n5 (by rw [e])
              clear n5 n6 n7
              go_wp2_with fail
              rw [HW3.out]
              clear e0 e1 e2 hes hbl
              obtain ⟨⟨⟨f0, f1, f2⟩, f3⟩, hU3, _⟩ := HKA.out W3 (Below.refl _ _)
              obtain ⟨g0, g1, g2⟩ := hU3.at HX.out.1
              obtain ⟨j0, j1, j2⟩ := hU3.at HX.out.2
              clear hU3
              have hxs : bx ≠ db := by have := lt_of_get H4.out.2.1; have := HBX.out; omega
              have hxs2 : db ≠ bx := Ne.symm hxs
              by_cases hxf : x = farN
              · have hxf2 : x = 18446744073709551615 := hxf
                subst hxf2
                go_quiet (fail)
                have HB4 : Hid (Below W3.heap.size W3 (W3.drewN nq)) := below_drewN (Below.refl _ W3) nq
                have H5 : Hid (Pass zs D D' (i + 1) t) := by
                  rcases H4.out.2.2.2 with ⟨h1, h2, h3⟩ | h
                  · refine Or.inl ⟨h1, h2, fun j a hj ha => ?_⟩
                    rcases Nat.lt_or_ge j i with hji | hji
                    · exact h3 j a hji ha
                    · obtain rfl : j = i := by omega
                      rw [HA.out] at ha
                      cases ha
                      intro x' y' hx' hy' hne
                      simp only [Int.toNat_natCast] at hx'
                      rw [← h2, HX.out.1] at hx'
                      exact absurd (Option.some.inj hx').symm hne
                  · exact Or.inr h
                go_wp2
                go_roundw
                case rel =>
                  obtain ⟨_, h1, h2⟩ := HKA.out _ HB4.out
                  exact ⟨i + 1, t, D', by omega, by go_num, rfl, h2, h1, H4.out.2.2.1, H5.out⟩
                case measure => simp [intOf]; omega
              · obtain ⟨x0, x1⟩ := hxb hxf
                obtain ⟨r0, r1⟩ := HNS.out
                have k1 : IntKind.u64.wrap (x + r) = x + r := by rw [IntKind.wrap_u64] <;> omega
                have k2 : (x != 18446744073709551615) = true := by
                  have : x ≠ 18446744073709551615 := hxf
                  simpa using this
                have k3 : (x == 18446744073709551615) = false := by
                  have : x ≠ 18446744073709551615 := hxf
                  simpa using this
                have HXF : Hid (x ≠ farN) := hxf
                clear hxf hxb
                by_cases hle : x + r < y
                · have k4 : decide (x + r < y) = true := decide_eq_true hle
                  go_quiet (fail)
                  have HB4 : Hid (Below W3.heap.size W3 (W3.drewN nq)) := below_drewN (Below.refl _ W3) nq
                  generalize hW4 : W3.drewN nq = W4 at *
                  clear hW4 f0 f1 f2 f3 g0 g1 g2 j0 j1 j2
                  obtain ⟨⟨⟨f0, f1, f2⟩, f3⟩, hU4, hb4⟩ := HKA.out W4 HB4.out
                  obtain ⟨g0, g1, g2⟩ := hU4.at HX.out.1
                  obtain ⟨j0, j1, j2⟩ := hU4.at HX.out.2
                  have H6 : Hid (Below db W1 (W4.setCell ⟨db, q, none⟩ (.int .u64 (x + r))) ∧ U64s (W4.setCell ⟨db, q, none⟩ (.int .u64 (x + r))) db (D'.set q (x + r))) := ⟨hb4.setCell (Nat.le_refl _) _, hU4.set q (x + r)⟩
                  have H7 : Hid (BF k zs s (D'.set q (x + r)) ∧ (D'.set q (x + r)).sum < D'.sum) := H4.out.2.2.1.relax hn (List.mem_of_getElem? HA.out) r0 r1 HX.out.1 HXF.out HX.out.2 hle
                  have m0 := (H6.out.2.at (k := p) (x := x) (by rw [List.getElem?_set, if_neg (Ne.symm HPQ.out)]; exact HX.out.1)).1
                  clear hU4 hb4
                  go_wp2_with fail
                  go_region_held3 (fun w' => (w'.cell? ⟨bx, 0, none⟩ = some (.int .i64 p) ∧ w'.cell? ⟨bx, 1, none⟩ = some (.int .i64 q)) ∧ w'.cell? ⟨bx, 2, none⟩ = some (.int .i64 r) ∧ w'.cell? ⟨db, p, none⟩ = some (.int .u64 x)) (go_keep) (first | fail)
                  go_wp2
                  go_roundw
                  case rel =>
                    refine ⟨i + 1, true, D'.set q (x + r), by omega, by go_num, rfl, H6.out.1.drew, H6.out.2, H7.out.1, Or.inr ⟨rfl, ?_⟩⟩
                    have h7 := H7.out.2
                    rcases H4.out.2.2.2 with ⟨_, h2, _⟩ | ⟨_, h2⟩
                    · rw [← h2]; exact h7
                    · omega
                  case measure => simp [intOf]; omega
                · have k4 : decide (x + r < y) = false := decide_eq_false hle
                  go_quiet (fail)
                  have HB4 : Hid (Below W3.heap.size W3 (W3.drewN nq)) := below_drewN (Below.refl _ W3) nq
                  have H5 : Hid (Pass zs D D' (i + 1) t) := by
                    rcases H4.out.2.2.2 with ⟨h1, h2, h3⟩ | h
                    · refine Or.inl ⟨h1, h2, fun j a hj ha => ?_⟩
                      rcases Nat.lt_or_ge j i with hji | hji
                      · exact h3 j a hji ha
                      · obtain rfl : j = i := by omega
                        rw [HA.out] at ha
                        cases ha
                        intro x' y' hx' hy' hne
                        simp only [Int.toNat_natCast] at hx' hy' ⊢
                        rw [← h2, HX.out.1] at hx'
                        rw [← h2, HX.out.2] at hy'
                        cases hx'
                        cases hy'
                        omega
                    · exact Or.inr h
                  go_wp2
                  go_roundw
                  case rel =>
                    obtain ⟨_, h1, h2⟩ := HKA.out _ HB4.out
                    exact ⟨i + 1, t, D', by omega, by go_num, rfl, h2, h1, H4.out.2.2.1, H5.out⟩
                  case measure => simp [intOf]; omega
            · obtain rfl : i = zs.length := by omega
              have HE : Hid (t = false → ∀ a ∈ zs, Tight D' a) := fun e => by
                rcases H4.out.2.2.2 with ⟨_, h2, h3⟩ | ⟨h1, _⟩
                · subst h2
                  intro a ha
                  obtain ⟨j, hj⟩ := List.getElem?_of_mem ha
                  exact h3 j a (List.getElem?_eq_some_iff.1 hj).1 hj
                · rw [e] at h1; cases h1
              have HM : Hid (2 * sumAt wr db + bitOf (.bool t) < 2 * sumAt w2 db + bitOf (.bool true)) := by
                have h1 := sumAt_of H4.out.2.1
                have h2 := HS.out
                have h3 := H3.out.2.2.nonneg
                have h4 := H4.out.2.2.1.nonneg
                show _ < _
                rw [h1, h2]
                rcases H4.out.2.2.2 with ⟨e, h5, _⟩ | ⟨e, h5⟩
                · subst e; rw [h5]; simp [bitOf]
                · subst e; simp only [bitOf]; omega
              go_wp2
              go_roundw
              case rel => exact ⟨t, D', rfl, H4.out.1, H4.out.2.1, H4.out.2.2.1, HE.out⟩
              case measure => exact HM.out
end Go.Proofs.Ytnkfggccahohpab
