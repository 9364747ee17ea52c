/- viaductref11's Lives, Len, Weight, DocPut. viaductref11's Put and Remove. viaductref11's Remove. -/
import Derived.Test.YtbkclhaonbjobaaGreatDoorQfX
import Derived.Test.YtbkclhaonbjobaaGreatDoorDocCheck
import Derived.Laws.OwnMore
namespace Go.Proofs.YtbkclhaonbjobaaGreatDoor
open Go.RowKit Go.Extern Go.Sort

attribute [local go_sem] Oper.semAt_some

/-- flags in memory. -/
def HasFl (w : World) (lv : Value) (bs : List Bool) : Prop := ∃ ao cap, lv = .slice ao bs.length cap ∧ ∀ m, m < bs.length → ∃ g, ao = some ⟨g, 0, none⟩ ∧ g < w.heap.size ∧ w.cell? ⟨g, m, none⟩ = some (.bool (liv bs m))
theorem HasFl.keep {w w' : World} {lv : Value} {bs : List Bool} (h : HasFl w lv bs) (hb : Below w.heap.size w w') : HasFl w' lv bs := by
  obtain ⟨ao, cap, e, hc⟩ := h
  refine ⟨ao, cap, e, fun m hm => ?_⟩
  obtain ⟨g, e1, hl, h0⟩ := hc m hm
  exact ⟨g, e1, Nat.lt_of_lt_of_le hl hb.size, (hb.cell (p := ⟨g, _, none⟩) hl).trans h0⟩
theorem HasFl.at {w : World} {ao : Option Addr} {n cap : Nat} {bs : List Bool} (h : HasFl w (.slice ao n cap) bs) {m : Nat} (hm : m < bs.length) : ∃ g, ao = some ⟨g, 0, none⟩ ∧ g < w.heap.size ∧ w.cell? ⟨g, m, none⟩ = some (.bool (liv bs m)) := by
  obtain ⟨ao', cap', e, hc⟩ := h
  injection e with e1 e2 e3
  subst e1
  exact hc m hm
theorem bel_one (w : World) (X : Obj) : Below w.heap.size w (w.alloc X) := (Below.refl _ w).alloc (Nat.le_refl _) _

set_option maxRecDepth 100000 in
set_option maxHeartbeats 2000000 in
theorem lives_calls (fo : Option Addr) (cap n : Nat) (bs : List Bool) (hl : bs.length = n) (ao : Option Addr) (zl zc : Nat) (x : Int) (w : World) (hg : HasFl w (.slice fo n cap) bs) (_hn : n ≤ 65536) :
    Calls Tryz.prog 17 #[.agg #[.slice fo n cap, .slice ao zl zc], .int .i64 x] w fun e w' => e = .returned (.bool (aliveB n bs x)) ∧ Below w.heap.size w w' := by
  obtain ⟨W0, hW0⟩ : ∃ W0, w.alloc (.cells #[.slice fo n cap, .slice ao zl zc] 33) = W0 := ⟨_, rfl⟩
  have HW0 : Hid (w.alloc (.cells #[.slice fo n cap, .slice ao zl zc] 33) = W0) := hW0
  have hb : Below w.heap.size w W0 := by rw [← hW0]; exact bel_one _ _
  have HB : Hid (Below w.heap.size w W0) := hb
  have hbx : W0.heap[w.heap.size]? = some (.cells #[.slice fo n cap, .slice ao zl zc] 33) := by rw [← hW0]; exact heap_new _ _
  obtain ⟨c0, c1, _, _⟩ := cell_two hbx
  have cs := lt_of_get hbx
  have hg0 := hg.keep hb
  by_cases h0 : 0 ≤ x
  · by_cases h1 : x < (n : Int)
    · obtain ⟨m, rfl⟩ : ∃ m : Nat, x = (m : Int) := ⟨x.toNat, by omega⟩
      obtain ⟨g, rfl, gs, c5⟩ := hg0.at (m := m) (by omega)
      have h1n : m < n := by omega
      have h1d : decide (m < n) = true := decide_eq_true h1n
      have HE : Hid (aliveB n bs (m : Int) = liv bs m) := alive_liv (by omega)
      clear hW0 hb hbx hg hg0 hl
      cases hlv : liv bs m with
      | true =>
        rw [hlv] at c5 HE
        clear hlv
        go_enter Tryz.func17, Tryz.ntmps17
        go_upto_region 1 with fail
        rw [HW0.out]
        go_wp2
        go_ret
        exact ⟨by rw [HE.out]; rfl, HB.out⟩
      | false =>
        rw [hlv] at c5 HE
        clear hlv
        go_enter Tryz.func17, Tryz.ntmps17
        go_upto_region 1 with fail
        rw [HW0.out]
        go_wp2
        go_ret
        exact ⟨by rw [HE.out]; rfl, HB.out⟩
    · have h1' : decide (x < (n : Int)) = false := decide_eq_false h1
      have HE : Hid (aliveB n bs x = false) := by show _ = _; unfold aliveB isN; rw [h1']; simp
      clear hW0 hb hbx hg hg0 hl
      go_enter Tryz.func17, Tryz.ntmps17
      go_wp2_with fail
      rw [HW0.out]
      go_wp2
      go_ret
      exact ⟨by rw [HE.out]; rfl, HB.out⟩
  · have h0' : decide (0 ≤ x) = false := decide_eq_false h0
    have HE : Hid (aliveB n bs x = false) := by show _ = _; unfold aliveB isN; rw [h0']; simp
    clear hW0 hb hbx hg hg0 hl
    go_enter Tryz.func17, Tryz.ntmps17
    go_wp2_with fail
    rw [HW0.out]
    go_wp2
    go_ret
    exact ⟨by rw [HE.out]; rfl, HB.out⟩

set_option maxRecDepth 100000 in
set_option maxHeartbeats 2000000 in
theorem rLen11_calls (fo : Option Addr) (cap n : Nat) (bs : List Bool) (hl : bs.length = n) (ao : Option Addr) (zl zc : Nat) (w : World) (hg : HasFl w (.slice fo n cap) bs) (hn : n ≤ 65536) :
    Calls Tryz.prog 41 #[.agg #[.slice fo n cap, .slice ao zl zc]] w fun e w' => e = .returned (.int .i64 ((aliveN n bs : Nat) : Int)) ∧ Below w.heap.size w w' := by
  obtain ⟨W0, hW0⟩ : ∃ W0, w.alloc (.cells #[.slice fo n cap, .slice ao zl zc] 33) = W0 := ⟨_, rfl⟩
  have HW0 : Hid (w.alloc (.cells #[.slice fo n cap, .slice ao zl zc] 33) = W0) := hW0
  have hb : Below w.heap.size w W0 := by rw [← hW0]; exact bel_one _ _
  have HB : Hid (Below w.heap.size w W0) := hb
  have hbx : W0.heap[w.heap.size]? = some (.cells #[.slice fo n cap, .slice ao zl zc] 33) := by rw [← hW0]; exact heap_new _ _
  obtain ⟨c0, c1, _, _⟩ := cell_two hbx
  have cs := lt_of_get hbx
  have hg0 := hg.keep hb
  have HF : Hid (∀ m, m < n → ∃ g, fo = some ⟨g, 0, none⟩ ∧ g < W0.heap.size ∧ W0.cell? ⟨g, m, none⟩ = some (.bool (liv bs m))) := fun m hm => hg0.at (by omega)
  have HAN : Hid (∀ k, k ≤ n → aliveN k bs ≤ 65536) := fun k hk => by
    have h := sumN_le k (fun u => if liv bs u then 1 else 0) 1 (fun i _ => by split <;> omega)
    show sumN k _ ≤ _
    omega
  clear hW0 hb hbx hg hg0 hl
  go_enter Tryz.func41, Tryz.ntmps41
  go_wp2_with fail
  rw [HW0.out]
  go_wp2_with fail
  clear c0 c1
  go_loopw [3, 9] (fun cv iv wr => ∃ k : Nat, k ≤ n ∧ cv = .int .i64 ((aliveN k bs : Nat) : Int) ∧ iv = .int .i64 (k : Nat) ∧ wr = W0) (fun _ iv _ => n - (intOf iv).toNat)
  case atStart => exact ⟨0, Nat.zero_le _, rfl, rfl, rfl⟩
  case round =>
    obtain ⟨k, hk, rfl, rfl, rfl⟩ := hrel
    by_cases hlt : k < n
    · obtain ⟨g, rfl, gs, c5⟩ := HF.out k hlt
      have hle := HAN.out k hk
      have HS : Hid (aliveN (k + 1) bs = aliveN k bs + (if liv bs k then 1 else 0)) := rfl
      have i1 : (k : Int) < (n : Int) := by omega
      have i2 : (0 : Int) ≤ (k : Int) := by omega
      generalize aliveN k bs = A at *
      cases hv : liv bs k with
      | true =>
        rw [hv] at c5 HS
        clear hv
        go_wp2
        go_roundw
        case rel => exact ⟨k + 1, by omega, by rw [HS.out]; simp only [if_true]; go_num, by go_num, by simp⟩
        case measure => simp [intOf]; omega
      | false =>
        rw [hv] at c5 HS
        clear hv
        go_wp2
        go_roundw
        case rel => exact ⟨k + 1, by omega, by rw [HS.out]; simp only [Bool.false_eq_true, if_false]; go_num, by go_num, by simp⟩
        case measure => simp [intOf]; omega
    · obtain rfl : k = n := by omega
      go_wp2
      go_ret
      exact ⟨rfl, HB.out⟩
/-- the weight of the arc between two nodes. -/
def wtA (zs : List A4) (x y : Int) : Option Int := (findA zs x y).map (·.2.2.1)
theorem findA_take {zs : List A4} {k : Nat} {a : A4} {x y : Int} (hk : zs[k]? = some a) (h0 : findA (zs.take k) x y = none) : (a.1 = x ∧ a.2.1 = y → findA zs x y = some a) ∧ (¬ (a.1 = x ∧ a.2.1 = y) → findA (zs.take (k + 1)) x y = none) := by
  unfold findA at *
  constructor
  · intro e
    have hlt := (List.getElem?_eq_some_iff.1 hk).1
    have hd : zs.drop k = a :: zs.drop (k + 1) := by rw [List.drop_eq_getElem_cons hlt, (List.getElem?_eq_some_iff.1 hk).2]
    rw [← List.take_append_drop k zs, hd, List.find?_append, h0, List.find?_cons_of_pos (by simp [e.1, e.2])]
    rfl
  · intro e
    rw [List.take_add_one, hk, List.find?_append, h0, Option.none_or]
    show (List.find? _ [a]) = none
    rw [List.find?_cons_of_neg (by simpa using e)]
    rfl

set_option maxRecDepth 100000 in
set_option maxHeartbeats 2000000 in
theorem rWeight11_calls (al : Value) (ao : Option Addr) (cap : Nat) (zs : List A4) (x y : Int) (w : World) (hA : HasA4 w (.slice ao zs.length cap) zs) (hz : zs.length ≤ 262144) (bo : Option Addr) (bl bc : Nat) (hal : al = .slice bo bl bc) :
    Calls Tryz.prog 58 #[.agg #[al, .slice ao zs.length cap], .int .i64 x, .int .i64 y] w fun e w' => e = .returned (.tuple #[.int .u64 ((wtA zs x y).getD 0), .bool (wtA zs x y).isSome]) ∧ Below w.heap.size w w' := by
  subst hal
  obtain ⟨W0, hW0⟩ : ∃ W0, w.alloc (.cells #[.slice bo bl bc, .slice ao zs.length cap] 33) = W0 := ⟨_, rfl⟩
  have HW0 : Hid (w.alloc (.cells #[.slice bo bl bc, .slice ao zs.length cap] 33) = W0) := hW0
  have hB0 : Below w.heap.size w W0 := by rw [← hW0]; exact bel_one _ _
  have hbx : W0.heap[w.heap.size]? = some (.cells #[.slice bo bl bc, .slice ao zs.length cap] 33) := by rw [← hW0]; exact heap_new _ _
  have HG : Hid (∀ wx, Below W0.heap.size W0 wx → HasA4 wx (.slice ao zs.length cap) zs ∧ Below w.heap.size w wx) := fun wx hwx => by
    have hb := hB0.trans (hwx.mono hB0.size)
    exact ⟨hA.keep hb, hb⟩
  obtain ⟨g0, g1, _, _⟩ := cell_two hbx
  have gs : w.heap.size < W0.heap.size := lt_of_get hbx
  clear hW0 hB0 hbx hA
  go_enter Tryz.func58, Tryz.ntmps58
  go_wp2_with fail
  rw [HW0.out]
  go_wp2_with fail
  clear g0 g1 gs
  go_loopw [13] (fun iv wr => ∃ k : Nat, k ≤ zs.length ∧ iv = .int .i64 (k : Nat) ∧ Below W0.heap.size W0 wr ∧ findA (zs.take k) x y = none) (fun iv _ => zs.length - (intOf iv).toNat)
  case atStart => exact ⟨0, Nat.zero_le _, rfl, Below.refl _ _, rfl⟩
  case round =>
    obtain ⟨k, hk, rfl, hbw, hno⟩ := hrel
    by_cases hlt : k < zs.length
    · obtain ⟨a, ha⟩ : ∃ a, zs[k]? = some a := ⟨zs[k], List.getElem?_eq_getElem hlt⟩
      obtain ⟨lb, lof, rfl, ll, p0, p1, p2, p3⟩ := (HG.out wr hbw).1.at ha
      obtain ⟨hy, hn⟩ := findA_take ha hno
      obtain ⟨a0, a1, a2, a3⟩ := a
      simp only at p0 p1 p2 p3 hy hn
      obtain ⟨Wa, hWa⟩ : ∃ Wa, wr.alloc (.cells #[.int .i64 a0, .int .i64 a1, .int .u64 a2, .int .i64 a3] 86) = Wa := ⟨_, rfl⟩
      have HWA : Hid (wr.alloc (.cells #[.int .i64 a0, .int .i64 a1, .int .u64 a2, .int .i64 a3] 86) = Wa) := hWa
      have bWa : Below wr.heap.size wr Wa := by rw [← hWa]; exact bel_one _ _
      have hnew : Wa.heap[wr.heap.size]? = some (.cells #[.int .i64 a0, .int .i64 a1, .int .u64 a2, .int .i64 a3] 86) := by rw [← hWa]; exact heap_new _ _
      have HBA : Hid (Below W0.heap.size W0 Wa) := hbw.trans (bWa.mono hbw.size)
      have n0 : Wa.cell? ⟨wr.heap.size, 0, none⟩ = some (.int .i64 a0) := by simp [World.cell?, hnew]
      have n1 : Wa.cell? ⟨wr.heap.size, 1, none⟩ = some (.int .i64 a1) := by simp [World.cell?, hnew]
      have n2 : Wa.cell? ⟨wr.heap.size, 2, none⟩ = some (.int .u64 a2) := by simp [World.cell?, hnew]
      have n3 : Wa.cell? ⟨wr.heap.size, 3, none⟩ = some (.int .i64 a3) := by simp [World.cell?, hnew]
      have ns : wr.heap.size < Wa.heap.size := lt_of_get hnew
      have t1 : (k : Int) < (zs.length : Int) := by omega
      have t2 : (0 : Int) ≤ (k : Int) := by omega
      clear hbw ha hWa bWa hnew hno
      by_cases e0 : a0 = x
      · subst e0
        by_cases e1 : a1 = y
        · subst e1
          have HF : Hid (wtA zs a0 a1 = some a2) := by show _ = _; unfold wtA; rw [hy ⟨rfl, rfl⟩]; rfl
          clear hy hn
          go_upto_region 4 with fail
          rw [HWA.out]
          go_wp2
          refine bodyPost_ret (v := .tuple #[.int .u64 a2, .bool true]) (by simp [results, Tryz.results58, go_sem]) rfl ⟨by rw [HF.out]; rfl, (HG.out Wa HBA.out).2⟩
        · have HN : Hid (findA (zs.take (k + 1)) a0 y = none) := hn (fun e => e1 e.2)
          have b1 : (a1 == y) = false := beq_eq_false_iff_ne.2 e1
          clear hy hn
          go_upto_region 4 with fail
          rw [HWA.out]
          go_wp2
          go_roundw
          case rel => exact ⟨k + 1, by omega, by go_num, HBA.out, HN.out⟩
          case measure => simp [intOf]; omega
      · have HN : Hid (findA (zs.take (k + 1)) x y = none) := hn (fun e => e0 e.1)
        have b1 : (a0 == x) = false := beq_eq_false_iff_ne.2 e0
        clear hy hn
        go_upto_region 4 with fail
        rw [HWA.out]
        go_wp2
        go_roundw
        case rel => exact ⟨k + 1, by omega, by go_num, HBA.out, HN.out⟩
        case measure => simp [intOf]; omega
    · obtain rfl : k = zs.length := by omega
      have HF : Hid (wtA zs x y = none) := by show _ = _; unfold wtA; rw [List.take_length] at hno; rw [hno]; rfl
      have HBW : Hid (Below w.heap.size w wr) := (HG.out wr hbw).2
      clear hno hbw
      go_wp2
      refine bodyPost_ret (v := .tuple #[.int .u64 0, .bool false]) (by simp [results, Tryz.results58, go_sem]) rfl ⟨by rw [HF.out]; rfl, HBW.out⟩
theorem two_set {w : World} {g : Nat} {c0 c1 v0 v1 : Value} {T : TypeId} (h : w.heap[g]? = some (.cells #[c0, c1] T (0, 0))) : ((w.setCell ⟨g, 0, none⟩ v0).setCell ⟨g, 1, none⟩ v1).heap[g]? = some (.cells #[v0, v1] T (0, 0)) := by
  rw [hsc_same _ (hsc_same _ h)]
  rfl
theorem two_below {w : World} {g b : Nat} {v0 v1 : Value} (h : b ≤ g) : Below b w ((w.setCell ⟨g, 0, none⟩ v0).setCell ⟨g, 1, none⟩ v1) := ((Below.refl _ w).setCell (p := ⟨g, 0, none⟩) (show b ≤ g from h) _).setCell (p := ⟨g, 1, none⟩) (show b ≤ g from h) _
theorem two_new (w : World) (X Y : Obj) : ((w.alloc X).alloc Y).heap[w.heap.size]? = some X ∧ ((w.alloc X).alloc Y).heap[w.heap.size + 1]? = some Y ∧ Below w.heap.size w ((w.alloc X).alloc Y) := by
  refine ⟨?_, ?_, ((Below.refl _ w).alloc (Nat.le_refl _) _).alloc (by simp) _⟩
  · rw [Below.heap_alloc _ _ _ (by simp)]; exact heap_new _ _
  · have h := heap_new (w.alloc X) Y
    simpa using h

set_option maxRecDepth 100000 in
set_option maxHeartbeats 8000000 in
theorem rDocPut11_calls (fo : Option Addr) (cap n : Nat) (bs : List Bool) (hl : bs.length = n) (ao : Option Addr) (zl zc : Nat) (x y wt via : Int) (w : World) (hg : HasFl w (.slice fo n cap) bs) (hn : n ≤ 65536) :
    Calls Tryz.prog 26 #[.agg #[.slice fo n cap, .slice ao zl zc], .int .i64 x, .int .i64 y, .int .u64 wt, .int .i64 via] w fun e w' => e = .returned (.agg #[.int .i64 (putErr n bs x y wt via), .slice none 0 0]) ∧ Below w.heap.size w w' := by
  obtain ⟨q0, q1, q2⟩ := two_new w (.cells #[.slice fo n cap, .slice ao zl zc] 33) (.cells #[.int .i64 0, .slice none 0 0] 44)
  obtain ⟨W0, hW0⟩ : ∃ W0, (w.alloc (.cells #[.slice fo n cap, .slice ao zl zc] 33)).alloc (.cells #[.int .i64 0, .slice none 0 0] 44) = W0 := ⟨_, rfl⟩
  rw [hW0] at q0 q1 q2
  have HW0 : Hid ((w.alloc (.cells #[.slice fo n cap, .slice ao zl zc] 33)).alloc (.cells #[.int .i64 0, .slice none 0 0] 44) = W0) := hW0
  have HG : Hid (∀ wx, Below W0.heap.size W0 wx → wx.cell? ⟨w.heap.size, 0, none⟩ = some (.slice fo n cap) ∧ wx.cell? ⟨w.heap.size, 1, none⟩ = some (.slice ao zl zc) ∧ wx.heap[w.heap.size + 1]? = some (.cells #[.int .i64 0, .slice none 0 0] 44 (0, 0)) ∧ w.heap.size < wx.heap.size ∧ (∀ m, m < n → ∃ g, fo = some ⟨g, 0, none⟩ ∧ g < wx.heap.size ∧ wx.cell? ⟨g, m, none⟩ = some (.bool (liv bs m)))) := fun wx h => by
    have h0 := (h.block _ (lt_of_get q0)).trans q0
    have hw := q2.trans (h.mono q2.size)
    have hgx := hg.keep hw
    exact ⟨(cell_two h0).1, (cell_two h0).2.1, (h.block _ (lt_of_get q1)).trans q1, lt_of_get h0, fun m hm => hgx.at (by omega)⟩
  have HL : Hid (∀ wx x, Below W0.heap.size W0 wx → Calls Tryz.prog 17 #[.agg #[.slice fo n cap, .slice ao zl zc], .int .i64 x] wx fun e w' => e = .returned (.bool (aliveB n bs x)) ∧ Below wx.heap.size wx w') := fun wx x h =>
    lives_calls fo cap n bs hl ao zl zc x wx (hg.keep (q2.trans (h.mono q2.size))) hn
  have HEND : Hid (∀ wx v0, Below W0.heap.size W0 wx → ((wx.setCell ⟨w.heap.size + 1, 0, none⟩ v0).setCell ⟨w.heap.size + 1, 1, none⟩ (.slice none 0 0)).heap[w.heap.size + 1]? = some (.cells #[v0, .slice none 0 0] 44 (0, 0)) ∧ Below w.heap.size w ((wx.setCell ⟨w.heap.size + 1, 0, none⟩ v0).setCell ⟨w.heap.size + 1, 1, none⟩ (.slice none 0 0))) := fun wx v0 h =>
    ⟨two_set ((h.block _ (lt_of_get q1)).trans q1), (q2.trans (h.mono q2.size)).trans (two_below (by omega))⟩
  clear hW0 q0 q1 q2 hg hl
  obtain ⟨c0, c1, cr, cs, _⟩ := HG.out W0 (Below.refl _ _)
  obtain ⟨r0, r1, f0, f1⟩ := cell_two cr
  have rs := lt_of_get cr
  clear cr
  go_enter Tryz.func26, Tryz.ntmps26
  go_wp2_with fail
  rw [HW0.out]
  refine (HL.out W0 x (Below.refl _ _)).mono ?_
  rintro e w1 ⟨rfl, hb1⟩
  have HB1 : Hid (Below W0.heap.size W0 w1) := hb1
  clear hb1 c0 c1 cs r0 r1 f0 f1 rs
  obtain ⟨c0, c1, cr, cs, _⟩ := HG.out w1 HB1.out
  obtain ⟨r0, r1, f0, f1⟩ := cell_two cr
  have rs := lt_of_get cr
  clear cr
  cases hx : aliveB n bs x with
  | false =>
    have HP : Hid (putErr n bs x y wt via = 7) := by show _ = _; unfold putErr; rw [hx]; simp
    clear hx
    go_wp2_with fail
    refine (E_calls 7 w1).mono ?_
    rintro e w2 ⟨rfl, hb2⟩
    have HB2 : Hid (Below W0.heap.size W0 w2) := HB1.out.trans (hb2.mono HB1.out.size)
    clear hb2 c0 c1 cs r0 r1 f0 f1 rs
    obtain ⟨_, _, cr, _, _⟩ := HG.out w2 HB2.out
    obtain ⟨r0, r1, f0, f1⟩ := cell_two cr
    have rs := lt_of_get cr
    clear cr
    go_wp2
    obtain ⟨z1, z2⟩ := HEND.out w2 (.int .i64 7) HB2.out
    generalize ((w2.setCell ⟨w.heap.size + 1, 0, none⟩ (.int .i64 7)).setCell ⟨w.heap.size + 1, 1, none⟩ (.slice none 0 0)) = Wf at *
    obtain ⟨u0, u1, _, _⟩ := cell_two z1
    refine bodyPost_ret (v := .agg #[.int .i64 7, .slice none 0 0]) (by simp [results, Tryz.results26, go_sem, u0, u1]) rfl ⟨by rw [HP.out], z2⟩
  | true =>
    go_wp2_with fail
    refine (HL.out w1 y HB1.out).mono ?_
    rintro e w2 ⟨rfl, hb2⟩
    have HB2 : Hid (Below W0.heap.size W0 w2) := HB1.out.trans (hb2.mono HB1.out.size)
    clear hb2 c0 c1 cs r0 r1 f0 f1 rs
    obtain ⟨c0, c1, cr, cs, cf⟩ := HG.out w2 HB2.out
    obtain ⟨r0, r1, f0, f1⟩ := cell_two cr
    have rs := lt_of_get cr
    have HCF : Hid (type_of% cf) := cf
    clear cr cf
    cases hy : aliveB n bs y with
    | false =>
      have HP : Hid (putErr n bs x y wt via = 7) := by show _ = _; unfold putErr; rw [hx, hy]; simp
      clear hx hy
      go_wp2_with fail
      refine (E_calls 7 w2).mono ?_
      rintro e w3 ⟨rfl, hb3⟩
      have HB3 : Hid (Below W0.heap.size W0 w3) := HB2.out.trans (hb3.mono HB2.out.size)
      clear hb3 c0 c1 cs r0 r1 f0 f1 rs
      obtain ⟨_, _, cr, _, _⟩ := HG.out w3 HB3.out
      obtain ⟨r0, r1, f0, f1⟩ := cell_two cr
      have rs := lt_of_get cr
      clear cr
      go_wp2
      obtain ⟨z1, z2⟩ := HEND.out w3 (.int .i64 7) HB3.out
      generalize ((w3.setCell ⟨w.heap.size + 1, 0, none⟩ (.int .i64 7)).setCell ⟨w.heap.size + 1, 1, none⟩ (.slice none 0 0)) = Wf at *
      obtain ⟨u0, u1, _, _⟩ := cell_two z1
      refine bodyPost_ret (v := .agg #[.int .i64 7, .slice none 0 0]) (by simp [results, Tryz.results26, go_sem, u0, u1]) rfl ⟨by rw [HP.out], z2⟩
    | true =>
      by_cases hxy : x = y
      · have HP : Hid (putErr n bs x y wt via = 1) := by show _ = _; unfold putErr; rw [hx, hy]; simp [hxy]
        clear hx hy
        have bxy : (x == y) = true := by simp [hxy]
        subst hxy
        go_wp2_with fail
        refine (E_calls 1 w2).mono ?_
        rintro e w3 ⟨rfl, hb3⟩
        have HB3 : Hid (Below W0.heap.size W0 w3) := HB2.out.trans (hb3.mono HB2.out.size)
        clear hb3 c0 c1 cs r0 r1 f0 f1 rs
        obtain ⟨_, _, cr, _, _⟩ := HG.out w3 HB3.out
        obtain ⟨r0, r1, f0, f1⟩ := cell_two cr
        have rs := lt_of_get cr
        clear cr
        go_wp2
        obtain ⟨z1, z2⟩ := HEND.out w3 (.int .i64 1) HB3.out
        generalize ((w3.setCell ⟨w.heap.size + 1, 0, none⟩ (.int .i64 1)).setCell ⟨w.heap.size + 1, 1, none⟩ (.slice none 0 0)) = Wf at *
        obtain ⟨u0, u1, _, _⟩ := cell_two z1
        refine bodyPost_ret (v := .agg #[.int .i64 1, .slice none 0 0]) (by simp [results, Tryz.results26, go_sem, u0, u1]) rfl ⟨by rw [HP.out], z2⟩
      · have bxy : (x == y) = false := beq_eq_false_iff_ne.2 hxy
        by_cases hwt : 140737488355328 < wt
        · have HP : Hid (putErr n bs x y wt via = 8) := by show _ = _; unfold putErr; rw [hx, hy]; simp [hxy, hwt]
          have bwt : decide (140737488355328 < wt) = true := decide_eq_true hwt
          clear hx hy
          go_wp2_with fail
          refine (E_calls 8 w2).mono ?_
          rintro e w3 ⟨rfl, hb3⟩
          have HB3 : Hid (Below W0.heap.size W0 w3) := HB2.out.trans (hb3.mono HB2.out.size)
          clear hb3 c0 c1 cs r0 r1 f0 f1 rs
          obtain ⟨_, _, cr, _, _⟩ := HG.out w3 HB3.out
          obtain ⟨r0, r1, f0, f1⟩ := cell_two cr
          have rs := lt_of_get cr
          clear cr
          go_wp2
          obtain ⟨z1, z2⟩ := HEND.out w3 (.int .i64 8) HB3.out
          generalize ((w3.setCell ⟨w.heap.size + 1, 0, none⟩ (.int .i64 8)).setCell ⟨w.heap.size + 1, 1, none⟩ (.slice none 0 0)) = Wf at *
          obtain ⟨u0, u1, _, _⟩ := cell_two z1
          refine bodyPost_ret (v := .agg #[.int .i64 8, .slice none 0 0]) (by simp [results, Tryz.results26, go_sem, u0, u1]) rfl ⟨by rw [HP.out], z2⟩
        · have bwt : decide (140737488355328 < wt) = false := decide_eq_false hwt
          have HPE : Hid (putErr n bs x y wt via = if via = -1 then 0 else if goneB n bs via then 0 else 1) := by show _ = _; unfold putErr; rw [hx, hy]; simp [hxy, hwt]
          clear hx hy
          by_cases hv1 : via = -1
          · subst hv1
            go_wp2
            obtain ⟨z1, z2⟩ := HEND.out w2 (.int .i64 0) HB2.out
            generalize ((w2.setCell ⟨w.heap.size + 1, 0, none⟩ (.int .i64 0)).setCell ⟨w.heap.size + 1, 1, none⟩ (.slice none 0 0)) = Wf at *
            obtain ⟨u0, u1, _, _⟩ := cell_two z1
            refine bodyPost_ret (v := .agg #[.int .i64 0, .slice none 0 0]) (by simp [results, Tryz.results26, go_sem, u0, u1]) rfl ⟨by rw [HPE.out]; rfl, z2⟩
          · have bv1 : (via != -1) = true := by simpa using hv1
            have bv2 : (via == -1) = false := by simpa using hv1
            have HPE2 : Hid (putErr n bs x y wt via = if goneB n bs via then 0 else 1) := by show _ = _; rw [HPE.out, if_neg hv1]
            by_cases hs : isN n via = true ∧ goneB n bs via = true
            · obtain ⟨hv2, hgn⟩ := hs
              obtain ⟨m, rfl⟩ : ∃ m : Nat, via = (m : Int) := ⟨via.toNat, by simp [isN] at hv2; omega⟩
              have hm : m < n := by simp [isN] at hv2; omega
              obtain ⟨g, rfl, gs, cm⟩ := HCF.out m hm
              have hlv : liv bs m = false := by unfold goneB at hgn; rw [hv2, Int.toNat_natCast] at hgn; simpa [liv] using hgn
              rw [hlv] at cm
              have i1 : ¬ ((m : Int) < 0) := by omega
              have i2 : ¬ ((n : Int) ≤ (m : Int)) := by omega
              have i3 : decide (n ≤ m) = false := decide_eq_false (by omega)
              have HP : Hid (putErr n bs x y wt (m : Int) = 0) := by show _ = _; rw [HPE2.out, hgn]; rfl
              clear hv2 hgn hlv
              go_wp2
              obtain ⟨z1, z2⟩ := HEND.out w2 (.int .i64 0) HB2.out
              generalize ((w2.setCell ⟨w.heap.size + 1, 0, none⟩ (.int .i64 0)).setCell ⟨w.heap.size + 1, 1, none⟩ (.slice none 0 0)) = Wf at *
              obtain ⟨u0, u1, _, _⟩ := cell_two z1
              refine bodyPost_ret (v := .agg #[.int .i64 0, .slice none 0 0]) (by simp [results, Tryz.results26, go_sem, u0, u1]) rfl ⟨by rw [HP.out], z2⟩
            · have HP : Hid (putErr n bs x y wt via = 1) := by
                show _ = _
                rw [HPE2.out, if_neg]
                intro h
                exact hs ⟨by unfold goneB at h; simp at h; exact h.1, h⟩
              have hcase : via < 0 ∨ (n : Int) ≤ via ∨ ∃ m : Nat, via = (m : Int) ∧ m < n ∧ liv bs m = true := by
                by_cases z0 : via < 0
                · exact Or.inl z0
                · by_cases z1 : (n : Int) ≤ via
                  · exact Or.inr (Or.inl z1)
                  · refine Or.inr (Or.inr ⟨via.toNat, by omega, by omega, ?_⟩)
                    cases hl : liv bs via.toNat with
                    | true => rfl
                    | false =>
                      have i : isN n via = true := by unfold isN; simp; omega
                      exact absurd ⟨i, by unfold goneB; rw [i]; simpa [liv] using hl⟩ hs
              clear hs
              rcases hcase with hv2 | hv2 | ⟨m, rfl, hm, hlv⟩
              · have i1 : decide (via < 0) = true := decide_eq_true hv2
                go_wp2_with fail
                refine (E_calls 1 w2).mono ?_
                rintro e w3 ⟨rfl, hb3⟩
                have HB3 : Hid (Below W0.heap.size W0 w3) := HB2.out.trans (hb3.mono HB2.out.size)
                clear hb3 c0 c1 cs r0 r1 f0 f1 rs
                obtain ⟨_, _, cr, _, _⟩ := HG.out w3 HB3.out
                obtain ⟨r0, r1, f0, f1⟩ := cell_two cr
                have rs := lt_of_get cr
                clear cr
                go_wp2
                obtain ⟨z1, z2⟩ := HEND.out w3 (.int .i64 1) HB3.out
                generalize ((w3.setCell ⟨w.heap.size + 1, 0, none⟩ (.int .i64 1)).setCell ⟨w.heap.size + 1, 1, none⟩ (.slice none 0 0)) = Wf at *
                obtain ⟨u0, u1, _, _⟩ := cell_two z1
                refine bodyPost_ret (v := .agg #[.int .i64 1, .slice none 0 0]) (by simp [results, Tryz.results26, go_sem, u0, u1]) rfl ⟨by rw [HP.out], z2⟩
              · have i0 : ¬ via < 0 := by omega
                have i1 : decide (via < 0) = false := decide_eq_false i0
                have i2 : decide ((n : Int) ≤ via) = true := decide_eq_true hv2
                go_wp2_with fail
                refine (E_calls 1 w2).mono ?_
                rintro e w3 ⟨rfl, hb3⟩
                have HB3 : Hid (Below W0.heap.size W0 w3) := HB2.out.trans (hb3.mono HB2.out.size)
                clear hb3 c0 c1 cs r0 r1 f0 f1 rs
                obtain ⟨_, _, cr, _, _⟩ := HG.out w3 HB3.out
                obtain ⟨r0, r1, f0, f1⟩ := cell_two cr
                have rs := lt_of_get cr
                clear cr
                go_wp2
                obtain ⟨z1, z2⟩ := HEND.out w3 (.int .i64 1) HB3.out
                generalize ((w3.setCell ⟨w.heap.size + 1, 0, none⟩ (.int .i64 1)).setCell ⟨w.heap.size + 1, 1, none⟩ (.slice none 0 0)) = Wf at *
                obtain ⟨u0, u1, _, _⟩ := cell_two z1
                refine bodyPost_ret (v := .agg #[.int .i64 1, .slice none 0 0]) (by simp [results, Tryz.results26, go_sem, u0, u1]) rfl ⟨by rw [HP.out], z2⟩
              · obtain ⟨g, rfl, gs, cm⟩ := HCF.out m hm
                rw [hlv] at cm
                have i1 : ¬ ((m : Int) < 0) := by omega
                have i2 : ¬ ((n : Int) ≤ (m : Int)) := by omega
                have i3 : decide (n ≤ m) = false := decide_eq_false (by omega)
                clear hlv
                go_wp2_with fail
                refine (E_calls 1 w2).mono ?_
                rintro e w3 ⟨rfl, hb3⟩
                have HB3 : Hid (Below W0.heap.size W0 w3) := HB2.out.trans (hb3.mono HB2.out.size)
                clear hb3 c0 c1 cs r0 r1 f0 f1 rs cm
                obtain ⟨_, _, cr, _, _⟩ := HG.out w3 HB3.out
                obtain ⟨r0, r1, f0, f1⟩ := cell_two cr
                have rs := lt_of_get cr
                clear cr
                go_wp2
                obtain ⟨z1, z2⟩ := HEND.out w3 (.int .i64 1) HB3.out
                generalize ((w3.setCell ⟨w.heap.size + 1, 0, none⟩ (.int .i64 1)).setCell ⟨w.heap.size + 1, 1, none⟩ (.slice none 0 0)) = Wf at *
                obtain ⟨u0, u1, _, _⟩ := cell_two z1
                refine bodyPost_ret (v := .agg #[.int .i64 1, .slice none 0 0]) (by simp [results, Tryz.results26, go_sem, u0, u1]) rfl ⟨by rw [HP.out], z2⟩
end Go.Proofs.YtbkclhaonbjobaaGreatDoor

namespace Go.Proofs.YtbkclhaonbjobaaGreatDoor
open Go.RowKit Go.Extern Go.Sort

attribute [local go_sem] Oper.semAt_some

theorem three_new (w : World) (X Y Z : Obj) : (((w.alloc X).alloc Y).alloc Z).heap[w.heap.size]? = some X ∧ (((w.alloc X).alloc Y).alloc Z).heap[w.heap.size + 1]? = some Y ∧ (((w.alloc X).alloc Y).alloc Z).heap[w.heap.size + 1 + 1]? = some Z ∧ Below w.heap.size w (((w.alloc X).alloc Y).alloc Z) := by
  obtain ⟨h1, h2, h3⟩ := two_new w X Y
  refine ⟨?_, ?_, ?_, h3.alloc (by simp; omega) _⟩
  · rw [Below.heap_alloc _ _ _ (by simp; omega)]; exact h1
  · rw [Below.heap_alloc _ _ _ (by simp)]; exact h2
  · have h := heap_new ((w.alloc X).alloc Y) Z
    simpa using h
/-- Put's memory: the overlay's box, the arc's, the answer's, the new overlay's, and its arcs. -/
structure PM (bo : Option Addr) (bl bc : Nat) (ov : Value) (a : A4) (w0 w : World) (X p1 p2 p3 B : Nat) (lv : Value) (L : List A4) : Prop where
  o : w.heap[X]? = some (.cells #[.slice bo bl bc, ov] 33 (0, 0))
  a : w.heap[p1]? = some (.cells #[.int .i64 a.1, .int .i64 a.2.1, .int .u64 a.2.2.1, .int .i64 a.2.2.2] 86 (0, 0))
  r : w.heap[p2]? = some (.cells #[.slice none 0 0, .slice none 0 0] 33 (0, 0))
  p : w.heap[p3]? = some (.cells #[.slice bo bl bc, lv] 33 (0, 0))
  own : w.ownsRow B 86 4 lv L.length (flatA4 L)
  bel : Below X w0 w
  ord : X < p1 ∧ p1 < p2 ∧ p2 < p3 ∧ p3 < B ∧ B ≤ w.heap.size
section
variable {bo : Option Addr} {bl bc X p1 p2 p3 B : Nat} {ov : Value} {a : A4} {w0 w : World} {lv : Value} {L : List A4}
theorem PM.put (h : PM bo bl bc ov a w0 w X p1 p2 p3 B lv L) {w' : World} {lv' : Value} {L' : List A4} (hown : w'.ownsRow B 86 4 lv' L'.length (flatA4 L')) (hgr : w.grownBy w' lv.ownBlock) : PM bo bl bc ov a w0 (w'.setCell ⟨p3, 1, none⟩ lv') X p1 p2 p3 B lv' L' := by
  obtain ⟨o1, o2, o3, o4, o5⟩ := h.ord
  have hk : ∀ j, j < B → w'.heap[j]? = w.heap[j]? := fun j hj => hgr.block j (Nat.lt_of_lt_of_le hj o5) (fun e => by have := (h.own.lt j e.symm).1; omega)
  have hb : Below X w w' := ⟨hgr.os, hgr.tape, hgr.output, hgr.size, fun j hj => hk j (by omega)⟩
  refine ⟨(hso _ (by omega)).trans ((hk X (by omega)).trans h.o), (hso _ (by omega)).trans ((hk p1 (by omega)).trans h.a), (hso _ (by omega)).trans ((hk p2 (by omega)).trans h.r), ?_, row4_keep hown (fun g h1 _ => hso _ (by omega)), h.bel.trans (hb.trans ((Below.refl X w').setCell (p := ⟨p3, 1, none⟩) (show X ≤ p3 by omega) _)), ⟨o1, o2, o3, o4, by have := hgr.size; simp; omega⟩⟩
  rw [hsc_same _ ((hk p3 (by omega)).trans h.p)]
  rfl
theorem PM.grown (h : PM bo bl bc ov a w0 w X p1 p2 p3 B lv L) {w' : World} (hgr : w.grownBy w' lv.ownBlock) : w'.cell? ⟨p3, 1, none⟩ = some lv ∧ w'.frozen? ⟨p3, 1, none⟩ = false ∧ p3 < w'.heap.size := by
  obtain ⟨o1, o2, o3, o4, o5⟩ := h.ord
  have hk : w'.heap[p3]? = w.heap[p3]? := hgr.block p3 (by omega) (fun e => by have := (h.own.lt p3 e.symm).1; omega)
  rw [h.p] at hk
  exact ⟨by simp [World.cell?, hk], by simp [World.frozen?, hk], lt_of_get hk⟩
theorem PM.keep (h : PM bo bl bc ov a w0 w X p1 p2 p3 B lv L) {w' : World} (hb : Below w.heap.size w w') : PM bo bl bc ov a w0 w' X p1 p2 p3 B lv L := by
  obtain ⟨o1, o2, o3, o4, o5⟩ := h.ord
  exact ⟨(hb.block _ (by omega)).trans h.o, (hb.block _ (by omega)).trans h.a, (hb.block _ (by omega)).trans h.r, (hb.block _ (by omega)).trans h.p, row4_keep h.own (fun g _ h1 => hb.block g h1), h.bel.trans (hb.mono (by omega)), ⟨o1, o2, o3, o4, Nat.le_trans o5 hb.size⟩⟩
end
/-- what a Put leaves of the others. -/
def restZ (zs : List A4) (a : A4) : List A4 := zs.filter fun x => !(x.1 == a.1 && x.2.1 == a.2.1)
theorem restZ_succ {zs : List A4} {k : Nat} {z : A4} (hk : zs[k]? = some z) (a : A4) : (z.1 = a.1 ∧ z.2.1 = a.2.1 → restZ (zs.take (k + 1)) a = restZ (zs.take k) a) ∧ (¬ (z.1 = a.1 ∧ z.2.1 = a.2.1) → restZ (zs.take (k + 1)) a = restZ (zs.take k) a ++ [z]) := by
  unfold restZ
  rw [List.take_add_one, hk, List.filter_append]
  constructor
  · intro e
    show _ ++ List.filter _ [z] = _
    rw [List.filter_cons_of_neg (by simp [e.1, e.2])]
    simp
  · intro e
    show _ ++ List.filter _ [z] = _
    rw [List.filter_cons_of_pos (by exact (sameB_iff z a).2 e)]
    simp
/-- there is such an arc that is no dearer; each such arc is dearer. -/
def CheapZ (zs : List A4) (a : A4) : Prop := ∃ z ∈ zs, z.1 = a.1 ∧ z.2.1 = a.2.1 ∧ z.2.2.1 ≤ a.2.2.1
def DearZ (zs : List A4) (a : A4) : Prop := ∀ z ∈ zs, z.1 = a.1 → z.2.1 = a.2.1 → a.2.2.1 < z.2.2.1
theorem restZ_len (zs : List A4) (a : A4) : (restZ zs a).length ≤ zs.length := List.length_filter_le _ _

set_option maxRecDepth 100000 in
set_option maxHeartbeats 8000000 in
theorem rPutA11_calls (bo : Option Addr) (bl bc : Nat) (ao : Option Addr) (cap : Nat) (zs : List A4) (a : A4) (w : World) (hA : HasA4 w (.slice ao zs.length cap) zs) (hz : zs.length ≤ 262144) :
    Calls Tryz.prog 28 #[.agg #[.slice bo bl bc, .slice ao zs.length cap], .agg #[.int .i64 a.1, .int .i64 a.2.1, .int .u64 a.2.2.1, .int .i64 a.2.2.2]] w fun e w' => Below w.heap.size w w' ∧
      ((CheapZ zs a ∧ e = .returned (.tuple #[.agg #[.slice bo bl bc, .slice ao zs.length cap], .bool false])) ∨
       (DearZ zs a ∧ ∃ so sc, e = .returned (.tuple #[.agg #[.slice bo bl bc, .slice so (putZ zs a).length sc], .bool true]) ∧ w'.ownsRow w.heap.size 86 4 (.slice so (putZ zs a).length sc) (putZ zs a).length (flatA4 (putZ zs a)))) := by
  have HA : Hid (∀ wx, Below w.heap.size w wx → HasA4 wx (.slice ao zs.length cap) zs) := fun wx h => hA.keep h
  obtain ⟨a0, a1, a2, a3⟩ := a
  simp only
  obtain ⟨s0, s1, s2, sB⟩ := three_new w (.cells #[.slice bo bl bc, .slice ao zs.length cap] 33) (.cells #[.int .i64 a0, .int .i64 a1, .int .u64 a2, .int .i64 a3] 86) (.cells #[.slice none 0 0, .slice none 0 0] 33)
  obtain ⟨c0, c1, _, _⟩ := cell_two s0
  have cs := lt_of_get s0
  obtain ⟨W3, hW3⟩ : ∃ W3, (((w.alloc (.cells #[.slice bo bl bc, .slice ao zs.length cap] 33)).alloc (.cells #[.int .i64 a0, .int .i64 a1, .int .u64 a2, .int .i64 a3] 86)).alloc (.cells #[.slice none 0 0, .slice none 0 0] 33)) = W3 := ⟨_, rfl⟩
  rw [hW3] at s0 s1 s2 sB c0 c1 cs
  have HW3 : Hid ((((w.alloc (.cells #[.slice bo bl bc, .slice ao zs.length cap] 33)).alloc (.cells #[.int .i64 a0, .int .i64 a1, .int .u64 a2, .int .i64 a3] 86)).alloc (.cells #[.slice none 0 0, .slice none 0 0] 33)) = W3) := hW3
  have hsz : W3.heap.size = w.heap.size + 1 + 1 + 1 := by rw [← hW3]; simp
  have hb4 : Below W3.heap.size W3 (W3.alloc (.cells #[.slice bo bl bc, .slice none 0 0] 33)) := bel_one _ _
  have HPM : Hid (PM bo bl bc (.slice ao zs.length cap) (a0, a1, a2, a3) w (W3.alloc (.cells #[.slice bo bl bc, .slice none 0 0] 33)) w.heap.size (w.heap.size + 1) (w.heap.size + 1 + 1) W3.heap.size (W3.heap.size + 1) (.slice none 0 0) []) :=
    ⟨(hb4.block _ (lt_of_get s0)).trans s0, (hb4.block _ (lt_of_get s1)).trans s1, (hb4.block _ (lt_of_get s2)).trans s2, heap_new _ _, World.ownsRow_nil _ _ _ _, sB.trans (hb4.mono sB.size), by omega, by omega, by omega, by omega, by simp⟩
  clear hW3 hb4 s0 s1 s2 sB hA hsz
  go_enter Tryz.func28, Tryz.ntmps28
  go_upto_region 1 with fail
  rw [HW3.out]
  go_upto_region 3 with fail
  generalize (W3.alloc (.cells #[.slice bo bl bc, .slice none 0 0] 33)) = W4 at *
  generalize W3.heap.size + 1 = B at *
  generalize W3.heap.size = p3 at *
  generalize w.heap.size + 1 + 1 = p2 at *
  generalize w.heap.size + 1 = p1 at *
  clear c0 c1 cs HW3
  obtain ⟨c0, c1, _, _⟩ := cell_two HPM.out.o
  have cs := lt_of_get HPM.out.o
  go_wp2_with fail
  clear c0 c1 cs
  go_loopw [16] (fun iv wr => ∃ (k : Nat) (so : Option Addr) (sc : Nat), k ≤ zs.length ∧ iv = .int .i64 (k : Nat) ∧ PM bo bl bc (.slice ao zs.length cap) (a0, a1, a2, a3) w wr w.heap.size p1 p2 p3 B (.slice so (restZ (zs.take k) (a0, a1, a2, a3)).length sc) (restZ (zs.take k) (a0, a1, a2, a3)) ∧ ∀ z ∈ zs.take k, z.1 = a0 → z.2.1 = a1 → a2 < z.2.2.1) (fun iv _ => zs.length - (intOf iv).toNat)
  case atStart => exact ⟨0, none, 0, Nat.zero_le _, rfl, HPM.out, fun z hz => by simp at hz⟩
  case round =>
    obtain ⟨k, so, sc, hk, rfl, hM, hdear⟩ := hrel
    by_cases hlt : k < zs.length
    · obtain ⟨z, hzk⟩ : ∃ z, zs[k]? = some z := ⟨zs[k], List.getElem?_eq_getElem hlt⟩
      obtain ⟨lb, lof, rfl, ll, q0, q1, q2, q3⟩ := (HA.out wr hM.bel).at hzk
      obtain ⟨hs1, hs2⟩ := restZ_succ hzk (a0, a1, a2, a3)
      have hle : (restZ (zs.take k) (a0, a1, a2, a3)).length ≤ 262144 := Nat.le_trans (restZ_len _ _) (by rw [List.length_take]; omega)
      have hmem : ∀ x ∈ zs.take (k + 1), x ∈ zs.take k ∨ x = z := fun x hx => by
        rw [List.take_add_one, hzk] at hx
        simpa using hx
      have hzm : z ∈ zs := List.mem_of_getElem? hzk
      obtain ⟨z0, z1, z2, z3⟩ := z
      simp only at q0 q1 q2 q3 hs1 hs2
      obtain ⟨L, hL⟩ : ∃ L, restZ (zs.take k) (a0, a1, a2, a3) = L := ⟨_, rfl⟩
      rw [hL] at hM hs1 hs2 hle
      obtain ⟨Wa, hWa⟩ : ∃ Wa, wr.alloc (.cells #[.int .i64 z0, .int .i64 z1, .int .u64 z2, .int .i64 z3] 86) = Wa := ⟨_, rfl⟩
      have HWA : Hid (wr.alloc (.cells #[.int .i64 z0, .int .i64 z1, .int .u64 z2, .int .i64 z3] 86) = Wa) := hWa
      have hnew : Wa.heap[wr.heap.size]? = some (.cells #[.int .i64 z0, .int .i64 z1, .int .u64 z2, .int .i64 z3] 86) := by rw [← hWa]; exact heap_new _ _
      have hMa := hM.keep (w' := Wa) (by rw [← hWa]; exact bel_one _ _)
      have HMA : Hid (type_of% hMa) := hMa
      have hMb := hMa.keep (bel_one Wa (.cells #[.int .i64 z0, .int .i64 z1, .int .u64 z2, .int .i64 z3] 86))
      have HMB : Hid (type_of% hMb) := hMb
      have HON : Hid (type_of% (a4_one Wa (z0, z1, z2, z3) 86)) := a4_one Wa (z0, z1, z2, z3) 86
      have n0 : Wa.cell? ⟨wr.heap.size, 0, none⟩ = some (.int .i64 z0) := by simp [World.cell?, hnew]
      have n1 : Wa.cell? ⟨wr.heap.size, 1, none⟩ = some (.int .i64 z1) := by simp [World.cell?, hnew]
      have n2 : Wa.cell? ⟨wr.heap.size, 2, none⟩ = some (.int .u64 z2) := by simp [World.cell?, hnew]
      have n3 : Wa.cell? ⟨wr.heap.size, 3, none⟩ = some (.int .i64 z3) := by simp [World.cell?, hnew]
      have ns : wr.heap.size < Wa.heap.size := lt_of_get hnew
      have m0 : Wa.cell? ⟨p1, 0, none⟩ = some (.int .i64 a0) := by simp [World.cell?, hMa.a]
      have m1 : Wa.cell? ⟨p1, 1, none⟩ = some (.int .i64 a1) := by simp [World.cell?, hMa.a]
      have m2 : Wa.cell? ⟨p1, 2, none⟩ = some (.int .u64 a2) := by simp [World.cell?, hMa.a]
      have ms : p1 < Wa.heap.size := lt_of_get hMa.a
      obtain ⟨d0, d1, _, _⟩ := cell_two hMa.p
      have ds := lt_of_get hMa.p
      have t1 : (k : Int) < (zs.length : Int) := by omega
      have t2 : (0 : Int) ≤ (k : Int) := by omega
      clear hzk hL hWa hnew hM hMa hMb
      by_cases hsame : z0 = a0 ∧ z1 = a1
      · have HS1 : Hid (restZ (zs.take (k + 1)) (a0, a1, a2, a3) = L) := hs1 hsame
        obtain ⟨rfl, rfl⟩ := hsame
        clear hs1 hs2
        by_cases hwz : z2 ≤ a2
        · have bwz : decide (z2 ≤ a2) = true := decide_eq_true hwz
          have HEX : Hid (CheapZ zs (z0, z1, a2, a3)) := ⟨_, hzm, rfl, rfl, hwz⟩
          obtain ⟨e0, e1, _, _⟩ := cell_two HMA.out.o
          have es := lt_of_get HMA.out.o
          obtain ⟨r0, r1, f0, f1⟩ := cell_two HMA.out.r
          have rs := lt_of_get HMA.out.r
          have o1 : w.heap.size ≠ p2 := by have := HMA.out.ord; omega
          have o2 : p2 ≠ w.heap.size := by have := HMA.out.ord; omega
          clear hdear hmem hzm
          go_upto_region 6 with fail
          rw [HWA.out]
          go_wp2
          have y1 := two_set (v0 := .slice bo bl bc) (v1 := .slice (some ⟨lb, lof, none⟩) zs.length cap) HMA.out.r
          have y2 : Below w.heap.size w ((Wa.setCell ⟨p2, 0, none⟩ (.slice bo bl bc)).setCell ⟨p2, 1, none⟩ (.slice (some ⟨lb, lof, none⟩) zs.length cap)) := HMA.out.bel.trans (two_below (by have := HMA.out.ord; omega))
          generalize ((Wa.setCell ⟨p2, 0, none⟩ (.slice bo bl bc)).setCell ⟨p2, 1, none⟩ (.slice (some ⟨lb, lof, none⟩) zs.length cap)) = Wf at *
          obtain ⟨u0, u1, _, _⟩ := cell_two y1
          refine bodyPost_ret (v := .tuple #[.agg #[.slice bo bl bc, .slice (some ⟨lb, lof, none⟩) zs.length cap], .bool false]) (by simp [results, Tryz.results28, go_sem, u0, u1]) rfl ⟨y2, Or.inl ⟨HEX.out, rfl⟩⟩
        · have bwz : decide (z2 ≤ a2) = false := decide_eq_false hwz
          have HD : Hid (∀ x ∈ zs.take (k + 1), x.1 = z0 → x.2.1 = z1 → a2 < x.2.2.1) := fun x hx e0 e1 => by
            rcases hmem x hx with h | rfl
            · exact hdear x h e0 e1
            · show a2 < z2; omega
          clear hdear hmem hzm
          go_upto_region 6 with fail
          rw [HWA.out]
          go_wp2
          go_roundw
          case rel => exact ⟨k + 1, so, sc, by omega, by go_num, by rw [HS1.out]; exact HMA.out, HD.out⟩
          case measure => simp [intOf]; omega
      · have HS2 : Hid (restZ (zs.take (k + 1)) (a0, a1, a2, a3) = L ++ [(z0, z1, z2, z3)]) := hs2 hsame
        have HD : Hid (∀ x ∈ zs.take (k + 1), x.1 = a0 → x.2.1 = a1 → a2 < x.2.2.1) := fun x hx e0 e1 => by
          rcases hmem x hx with h | rfl
          · exact hdear x h e0 e1
          · exact absurd ⟨e0, e1⟩ hsame
        clear hs1 hs2 hdear hmem hzm
        by_cases e0 : z0 = a0
        · have b1 : (z1 == a1) = false := beq_eq_false_iff_ne.2 (fun e => hsame ⟨e0, e⟩)
          clear hsame
          subst e0
          go_upto_region 6 with fail
          rw [HWA.out]
          go_wp2_with (at_builtin; refine wpList_append_a4 rfl _ _ rfl B (.slice so L.length sc) L rfl HMB.out.own ⟨Wa.heap.size, 0, none⟩ 1 [(z0, z1, z2, z3)] rfl HON.out (by simp only [List.length_cons, List.length_nil]; omega) HMB.out.ord.2.2.2.2 ?_; intro v' w' hown hgr; obtain ⟨ro, rc, hv⟩ := row4_slice hown; subst hv; obtain ⟨x1, x2, x3⟩ := HMB.out.grown hgr; have Y : Hid (type_of% (HMB.out.put hown hgr)) := HMB.out.put hown hgr; clear hown hgr; generalize L ++ [(z0, z1, z2, z3)] = L2 at *)
          go_roundw
          case rel => exact ⟨k + 1, ro, rc, by omega, by go_num, by rw [HS2.out]; exact Y.out, HD.out⟩
          case measure => simp [intOf]; omega
        · have b0 : (z0 == a0) = false := beq_eq_false_iff_ne.2 e0
          clear hsame e0
          go_upto_region 6 with fail
          rw [HWA.out]
          go_wp2_with (at_builtin; refine wpList_append_a4 rfl _ _ rfl B (.slice so L.length sc) L rfl HMB.out.own ⟨Wa.heap.size, 0, none⟩ 1 [(z0, z1, z2, z3)] rfl HON.out (by simp only [List.length_cons, List.length_nil]; omega) HMB.out.ord.2.2.2.2 ?_; intro v' w' hown hgr; obtain ⟨ro, rc, hv⟩ := row4_slice hown; subst hv; obtain ⟨x1, x2, x3⟩ := HMB.out.grown hgr; have Y : Hid (type_of% (HMB.out.put hown hgr)) := HMB.out.put hown hgr; clear hown hgr; generalize L ++ [(z0, z1, z2, z3)] = L2 at *)
          go_roundw
          case rel => exact ⟨k + 1, ro, rc, by omega, by go_num, by rw [HS2.out]; exact Y.out, HD.out⟩
          case measure => simp [intOf]; omega
    · obtain rfl : k = zs.length := by omega
      rw [List.take_length] at hM hdear
      have HD : Hid (DearZ zs (a0, a1, a2, a3)) := hdear
      have HLE : (restZ zs (a0, a1, a2, a3)).length ≤ 262144 := Nat.le_trans (restZ_len _ _) hz
      have HPA : Hid (putZ zs (a0, a1, a2, a3) = restZ zs (a0, a1, a2, a3) ++ [(a0, a1, a2, a3)]) := rfl
      generalize restZ zs (a0, a1, a2, a3) = L at *
      have hMb := hM.keep (bel_one wr (.cells #[.int .i64 a0, .int .i64 a1, .int .u64 a2, .int .i64 a3] 86))
      have HMB : Hid (type_of% hMb) := hMb
      have HON : Hid (type_of% (a4_one wr (a0, a1, a2, a3) 86)) := a4_one wr (a0, a1, a2, a3) 86
      have m0 : wr.cell? ⟨p1, 0, none⟩ = some (.int .i64 a0) := by simp [World.cell?, hM.a]
      have m1 : wr.cell? ⟨p1, 1, none⟩ = some (.int .i64 a1) := by simp [World.cell?, hM.a]
      have m2 : wr.cell? ⟨p1, 2, none⟩ = some (.int .u64 a2) := by simp [World.cell?, hM.a]
      have m3 : wr.cell? ⟨p1, 3, none⟩ = some (.int .i64 a3) := by simp [World.cell?, hM.a]
      have ms : p1 < wr.heap.size := lt_of_get hM.a
      obtain ⟨d0, d1, _, _⟩ := cell_two hM.p
      have ds := lt_of_get hM.p
      clear hM hMb hdear
      go_upto_region 12 with (at_builtin; refine wpList_append_a4 rfl _ _ rfl B (.slice so L.length sc) L rfl HMB.out.own ⟨wr.heap.size, 0, none⟩ 1 [(a0, a1, a2, a3)] rfl HON.out (by simp only [List.length_cons, List.length_nil]; omega) HMB.out.ord.2.2.2.2 ?_; intro v' w' hown hgr; obtain ⟨ro, rc, hv⟩ := row4_slice hown; subst hv; obtain ⟨x1, x2, x3⟩ := HMB.out.grown hgr; have Y : Hid (type_of% (HMB.out.put hown hgr)) := HMB.out.put hown hgr; clear hown hgr; generalize L ++ [(a0, a1, a2, a3)] = L2 at *)
      generalize (w'.setCell ⟨p3, 1, none⟩ (.slice ro L2.length rc)) = Wp at *
      clear x1 x2 x3 d0 d1 ds m0 m1 m2 m3 ms
      obtain ⟨e0, e1, _, _⟩ := cell_two Y.out.p
      have es := lt_of_get Y.out.p
      obtain ⟨r0, r1, f0, f1⟩ := cell_two Y.out.r
      have rs := lt_of_get Y.out.r
      have o1 : p3 ≠ p2 := by have := Y.out.ord; omega
      have o2 : p2 ≠ p3 := by have := Y.out.ord; omega
      go_wp2
      have y1 := two_set (v0 := .slice bo bl bc) (v1 := .slice ro L2.length rc) Y.out.r
      have y2 : Below w.heap.size w ((Wp.setCell ⟨p2, 0, none⟩ (.slice bo bl bc)).setCell ⟨p2, 1, none⟩ (.slice ro L2.length rc)) := Y.out.bel.trans (two_below (by have := Y.out.ord; omega))
      have y3 : ((Wp.setCell ⟨p2, 0, none⟩ (.slice bo bl bc)).setCell ⟨p2, 1, none⟩ (.slice ro L2.length rc)).ownsRow w.heap.size 86 4 (.slice ro L2.length rc) L2.length (flatA4 L2) := by
        have o := Y.out.ord
        exact row4_base (row4_keep Y.out.own (fun g h1 _ => (hso _ (by omega)).trans (hso _ (by omega)))) (by omega)
      generalize ((Wp.setCell ⟨p2, 0, none⟩ (.slice bo bl bc)).setCell ⟨p2, 1, none⟩ (.slice ro L2.length rc)) = Wf at *
      obtain ⟨u0, u1, _, _⟩ := cell_two y1
      refine bodyPost_ret (v := .tuple #[.agg #[.slice bo bl bc, .slice ro L2.length rc], .bool true]) (by simp [results, Tryz.results28, go_sem, u0, u1]) rfl ⟨y2, Or.inr ⟨HD.out, ro, rc, ?_, ?_⟩⟩
      · rw [HPA.out]
      · rw [HPA.out]; exact y3
end Go.Proofs.YtbkclhaonbjobaaGreatDoor

namespace Go.Proofs.YtbkclhaonbjobaaGreatDoor
open Go.RowKit Go.Extern Go.Sort

attribute [local go_sem] Oper.semAt_some

theorem rowX_keep {w w' : World} {base e size n : Nat} {xs : List Value} {v : Value} (h : w.ownsRow base e size v n xs) (hk : ∀ g, v.ownBlock = some g → w'.heap[g]? = w.heap[g]?) : w'.ownsRow base e size v n xs := by
  obtain ⟨h1, h2⟩ := h
  refine ⟨h1, ?_⟩
  rcases h2 with h2 | ⟨g, cap, cur, e, hb, hh, r⟩
  · exact Or.inl h2
  · subst e
    exact Or.inr ⟨g, cap, cur, rfl, hb, (hk g rfl).trans hh, r⟩
theorem row_at {w w' : World} {K e size n fb fc : Nat} {xs : List Value} (h : w.ownsRow K e size (.slice (some ⟨fb, 0, none⟩) n fc) n xs) (hk : w'.heap[fb]? = w.heap[fb]?) : w'.ownsRow K e size (.slice (some ⟨fb, 0, none⟩) n fc) n xs := rowX_keep h (fun g e => by
  have e' : fb = g := by simpa [Value.ownBlock] using e
  rw [← e']
  exact hk)
theorem addr_inj {g g' : Nat} (e : (some ⟨g, 0, none⟩ : Option Addr) = some ⟨g', 0, none⟩) : g = g' := congrArg (fun o => (o.getD ⟨0, 0, none⟩).block) e
theorem rowX_base {w : World} {base base' e size n : Nat} {xs : List Value} {v : Value} (h : w.ownsRow base e size v n xs) (hb : base' ≤ base) : w.ownsRow base' e size v n xs := by
  obtain ⟨h1, h2⟩ := h
  refine ⟨h1, ?_⟩
  rcases h2 with h2 | ⟨g, cap, cur, e, h3, r⟩
  · exact Or.inl h2
  · exact Or.inr ⟨g, cap, cur, e, Nat.le_trans hb h3, r⟩
theorem Tryz.infoBo : (Tryz.prog.info? 4).map (fun i => (i.zero, i.size, i.bytes)) = some (some (.bool false), 1, 1) := by kernel_rfl
theorem fl_of_row {w : World} {base n : Nat} {v : Value} {bs : List Bool} (hl : bs.length = n) (h : w.ownsRow base 4 1 v n (bs.map Value.bool)) : HasFl w v bs := by
  subst hl
  rcases h.2 with ⟨e, h0⟩ | ⟨g, cap, cur, rfl, hg, hh, _⟩
  · exact ⟨none, 0, by rw [e, h0], fun m hm => by omega⟩
  · refine ⟨_, cap, rfl, fun m hm => ⟨g, rfl, lt_of_get hh, ?_⟩⟩
    rw [h.cellAt m (by omega), List.getElem?_map, List.getElem?_eq_getElem hm]
    unfold liv
    rw [List.getElem?_eq_getElem hm]
    rfl
/-- append of flags onto nothing. -/
theorem wpList_append_fl {w : World} {ops : Array Oper} {rest : List Oper} {o : Oper} {a : Act} {Q : Exit → Act → World → Prop} (hgd : o.guard = none) (s x : Operand)
    (ho : o.op = .call { callee := .builtin .append, args := #[s, x], argTypes := #[30, 30] })
    (hs : a.eval s = .slice none 0 0) (g n c : Nat) (bs : List Bool) (hl : bs.length = n) (hn0 : 0 < n) (hn : n ≤ 65536) (hx : a.eval x = .slice (some ⟨g, 0, none⟩) n c) (hf : HasFl w (.slice (some ⟨g, 0, none⟩) n c) bs)
    (h : ∀ fb fc w', w.heap.size ≤ fb → w'.ownsRow w.heap.size 4 1 (.slice (some ⟨fb, 0, none⟩) n fc) n (bs.map Value.bool) → Below w.heap.size w w' → wpList Tryz.prog ops Q rest (a.put o.dst (.slice (some ⟨fb, 0, none⟩) n fc)) w') : wpList Tryz.prog ops Q (o :: rest) a w := by
  obtain ⟨i0, hi, hz0, hz1, hz2⟩ : ∃ i, Tryz.prog.info? 4 = some i ∧ i.zero = some (.bool false) ∧ i.size = 1 ∧ i.bytes = 1 := by
    have h := Tryz.infoBo
    cases hi : Tryz.prog.info? 4 with
    | none => rw [hi] at h; cases h
    | some i => rw [hi] at h; simp at h; exact ⟨i, rfl, h.1, h.2.1, h.2.2⟩
  refine wpList_append_own _ hgd s x 30 ho w.heap.size 4 i0 _ 1 1 Tryz.underlying30 hi hz0 hz1 hz2 rfl (by decide) (.slice none 0 0) 0 [] hs (World.ownsRow_nil _ _ _ _) ⟨g, 0, none⟩ n c (bs.map Value.bool) hx (by simp [hl]) ?_ ?_ (by unfold maxLen; omega) (by omega) (Nat.le_refl _) ?_
  · intro j u hj
    have hlt := (List.getElem?_eq_some_iff.1 hj).1
    rw [List.length_map] at hlt
    obtain ⟨g', e, _, hc⟩ := hf.at hlt
    obtain rfl := addr_inj e
    have ea : (⟨g, 0, none⟩ : Addr).add j = ⟨g, j, none⟩ := by unfold Addr.add; split <;> simp_all
    rw [ea, hc]
    rw [List.getElem?_map, List.getElem?_eq_getElem hlt] at hj
    unfold liv
    rw [List.getElem?_eq_getElem hlt]
    exact hj
  · intro u hu
    obtain ⟨b, _, rfl⟩ := List.mem_map.1 hu
    rfl
  · intro v' w' h1 h2 h3
    have h1' : w'.ownsRow w.heap.size 4 1 v' n (bs.map Value.bool) := by simpa using h1
    have hb : Below w.heap.size w w' := ⟨h2.os, h2.tape, h2.output, h2.size, fun j hj => h2.block j hj (by simp [Value.ownBlock])⟩
    rcases h1'.2 with ⟨e, h0⟩ | ⟨fb, fc, cur, rfl, hg, hh, _⟩
    · omega
    · exact h fb fc w' hg h1' hb
/-- Remove's memory: the overlay's box, the answer's, the new overlay's, its flags and its arcs. -/
structure RM (fv ov : Value) (n : Nat) (fs : List Value) (w0 w : World) (X p1 p2 fb fc B : Nat) (lv : Value) (L : List A4) : Prop where
  o : w.heap[X]? = some (.cells #[fv, ov] 33 (0, 0))
  r : w.heap[p1]? = some (.cells #[.slice none 0 0, .slice none 0 0] 33 (0, 0))
  p : w.heap[p2]? = some (.cells #[.slice (some ⟨fb, 0, none⟩) n fc, lv] 33 (0, 0))
  fl : w.ownsRow X 4 1 (.slice (some ⟨fb, 0, none⟩) n fc) n fs
  own : w.ownsRow B 86 4 lv L.length (flatA4 L)
  bel : Below X w0 w
  ord : X < p1 ∧ p1 < p2 ∧ p2 < fb ∧ fb < B ∧ B ≤ w.heap.size
section
variable {n X p1 p2 fb fc B : Nat} {fv ov : Value} {fs : List Value} {w0 w : World} {lv : Value} {L : List A4}
theorem RM.put (h : RM fv ov n fs w0 w X p1 p2 fb fc B lv L) {w' : World} {lv' : Value} {L' : List A4} (hown : w'.ownsRow B 86 4 lv' L'.length (flatA4 L')) (hgr : w.grownBy w' lv.ownBlock) : RM fv ov n fs w0 (w'.setCell ⟨p2, 1, none⟩ lv') X p1 p2 fb fc B lv' L' := by
  obtain ⟨o1, o2, o3, o4, o5⟩ := h.ord
  have hk : ∀ j, j < B → w'.heap[j]? = w.heap[j]? := fun j hj => hgr.block j (Nat.lt_of_lt_of_le hj o5) (fun e => by have := (h.own.lt j e.symm).1; omega)
  have hb : Below X w w' := ⟨hgr.os, hgr.tape, hgr.output, hgr.size, fun j hj => hk j (by omega)⟩
  refine ⟨(hso _ (by omega)).trans ((hk X (by omega)).trans h.o), (hso _ (by omega)).trans ((hk p1 (by omega)).trans h.r), ?_, row_at h.fl ?_, row4_keep hown (fun g h1 _ => hso _ (by omega)), h.bel.trans (hb.trans ((Below.refl X w').setCell (p := ⟨p2, 1, none⟩) (show X ≤ p2 by omega) _)), ⟨o1, o2, o3, o4, by have := hgr.size; simp; omega⟩⟩
  · rw [hsc_same _ ((hk p2 (by omega)).trans h.p)]
    rfl
  · exact (hso _ (by omega)).trans (hk _ (by omega))
theorem RM.grown (h : RM fv ov n fs w0 w X p1 p2 fb fc B lv L) {w' : World} (hgr : w.grownBy w' lv.ownBlock) : w'.cell? ⟨p2, 1, none⟩ = some lv ∧ w'.frozen? ⟨p2, 1, none⟩ = false ∧ p2 < w'.heap.size := by
  obtain ⟨o1, o2, o3, o4, o5⟩ := h.ord
  have hk : w'.heap[p2]? = w.heap[p2]? := hgr.block p2 (by omega) (fun e => by have := (h.own.lt p2 e.symm).1; omega)
  rw [h.p] at hk
  exact ⟨by simp [World.cell?, hk], by simp [World.frozen?, hk], lt_of_get hk⟩
theorem RM.keep (h : RM fv ov n fs w0 w X p1 p2 fb fc B lv L) {w' : World} (hb : Below w.heap.size w w') : RM fv ov n fs w0 w' X p1 p2 fb fc B lv L := by
  obtain ⟨o1, o2, o3, o4, o5⟩ := h.ord
  refine ⟨(hb.block _ (by omega)).trans h.o, (hb.block _ (by omega)).trans h.r, (hb.block _ (by omega)).trans h.p, row_at h.fl ?_, row4_keep h.own (fun g _ h1 => hb.block g h1), h.bel.trans (hb.mono (by omega)), ⟨o1, o2, o3, o4, Nat.le_trans o5 hb.size⟩⟩
  exact hb.block _ (by omega)
end
theorem remZ_succ {zs : List A4} {k : Nat} {z : A4} (hk : zs[k]? = some z) (x : Int) : (z.1 = x ∨ z.2.1 = x → remZ (zs.take (k + 1)) x = remZ (zs.take k) x) ∧ (¬ (z.1 = x ∨ z.2.1 = x) → remZ (zs.take (k + 1)) x = remZ (zs.take k) x ++ [z]) := by
  unfold remZ
  rw [List.take_add_one, hk, List.filter_append]
  constructor
  · intro e
    show _ ++ List.filter _ [z] = _
    rw [List.filter_cons_of_neg (by simp; intro h1; exact e.resolve_left h1)]
    simp
  · intro e
    obtain ⟨e1, e2⟩ := not_or.1 e
    show _ ++ List.filter _ [z] = _
    rw [List.filter_cons_of_pos (by simp [e1, e2])]
    simp
theorem remZ_len (zs : List A4) (x : Int) : (remZ zs x).length ≤ zs.length := List.length_filter_le _ _

set_option maxRecDepth 100000 in
set_option maxHeartbeats 8000000 in
theorem rRemove11_calls (fo : Option Addr) (n c : Nat) (bs : List Bool) (hl : bs.length = n) (hn : n ≤ 65536) (ao : Option Addr) (cap : Nat) (zs : List A4) (u : Nat) (hu : u < n) (w : World) (hF : HasFl w (.slice fo n c) bs) (hA : HasA4 w (.slice ao zs.length cap) zs) (hz : zs.length ≤ 262144) :
    Calls Tryz.prog 30 #[.agg #[.slice fo n c, .slice ao zs.length cap], .int .i64 (u : Int)] w fun e w' => Below w.heap.size w w' ∧ ∃ fb fc so sc, e = .returned (.agg #[.slice (some ⟨fb, 0, none⟩) n fc, .slice so (remZ zs (u : Int)).length sc]) ∧ w'.ownsRow w.heap.size 4 1 (.slice (some ⟨fb, 0, none⟩) n fc) n ((bs.set u false).map Value.bool) ∧ w'.ownsRow w.heap.size 86 4 (.slice so (remZ zs (u : Int)).length sc) (remZ zs (u : Int)).length (flatA4 (remZ zs (u : Int))) := by
  obtain ⟨g, rfl, _, _⟩ := hF.at (m := u) (by omega)
  have HA : Hid (∀ wx, Below w.heap.size w wx → HasA4 wx (.slice ao zs.length cap) zs) := fun wx h => hA.keep h
  obtain ⟨s0, s1, s2, sB⟩ := three_new w (.cells #[.slice (some ⟨g, 0, none⟩) n c, .slice ao zs.length cap] 33) (.cells #[.slice none 0 0, .slice none 0 0] 33) (.cells #[.slice none 0 0, .slice none 0 0] 33)
  obtain ⟨W3, hW3⟩ : ∃ W3, (((w.alloc (.cells #[.slice (some ⟨g, 0, none⟩) n c, .slice ao zs.length cap] 33)).alloc (.cells #[.slice none 0 0, .slice none 0 0] 33)).alloc (.cells #[.slice none 0 0, .slice none 0 0] 33)) = W3 := ⟨_, rfl⟩
  rw [hW3] at s0 s1 s2 sB
  have HW3 : Hid ((((w.alloc (.cells #[.slice (some ⟨g, 0, none⟩) n c, .slice ao zs.length cap] 33)).alloc (.cells #[.slice none 0 0, .slice none 0 0] 33)).alloc (.cells #[.slice none 0 0, .slice none 0 0] 33)) = W3) := hW3
  have hsz : W3.heap.size = w.heap.size + 1 + 1 + 1 := by rw [← hW3]; simp
  have HSZ : Hid (W3.heap.size = w.heap.size + 1 + 1 + 1) := hsz
  obtain ⟨c0, c1, _, _⟩ := cell_two s0
  have cs := lt_of_get s0
  obtain ⟨d0, d1, d2, d3⟩ := cell_two s2
  have ds := lt_of_get s2
  have HS : Hid (W3.heap[w.heap.size]? = some (.cells #[.slice (some ⟨g, 0, none⟩) n c, .slice ao zs.length cap] 33 (0, 0)) ∧ W3.heap[w.heap.size + 1]? = some (.cells #[.slice none 0 0, .slice none 0 0] 33 (0, 0)) ∧ W3.heap[w.heap.size + 1 + 1]? = some (.cells #[.slice none 0 0, .slice none 0 0] 33 (0, 0)) ∧ Below w.heap.size w W3 ∧ HasFl W3 (.slice (some ⟨g, 0, none⟩) n c) bs) := ⟨s0, s1, s2, sB, hF.keep sB⟩
  have HL : Hid (bs.length = n) := hl
  have i1 : (u : Int) < (n : Int) := by omega
  have i2 : (0 : Int) ≤ (u : Int) := by omega
  have hn0 : 0 < n := by omega
  clear hW3 s0 s1 s2 sB hA hF hsz hl
  go_enter Tryz.func30, Tryz.ntmps30
  go_upto_region 2 with fail
  rw [HW3.out]
  clear HW3
  have o1 : w.heap.size ≠ w.heap.size + 1 + 1 := by omega
  have o2 : w.heap.size + 1 + 1 ≠ w.heap.size := by omega
  go_upto_region 3 with (at_builtin; refine wpList_append_fl rfl _ _ rfl rfl g n c bs HL.out hn0 hn rfl HS.out.2.2.2.2 ?_; intro fb fc w1 hfb hown hb1; have Y1 : Hid (W3.heap.size ≤ fb ∧ w1.ownsRow W3.heap.size 4 1 (.slice (some ⟨fb, 0, none⟩) n fc) n (bs.map Value.bool) ∧ Below W3.heap.size W3 w1) := ⟨hfb, hown, hb1⟩; have hp1 := (hb1.block _ (lt_of_get HS.out.2.2.1)).trans HS.out.2.2.1; clear c0 c1 cs d0 d1 d2 d3 ds hfb hown hb1; obtain ⟨d0, d1, d2, d3⟩ := cell_two hp1; have ds := lt_of_get hp1; clear hp1)
  have hRM : RM (.slice (some ⟨g, 0, none⟩) n c) (.slice ao zs.length cap) n ((bs.set u false).map Value.bool) w ((w1.setCell ⟨w.heap.size + 1 + 1, 0, none⟩ (.slice (some ⟨fb, 0, none⟩) n fc)).setCell ⟨fb, u, none⟩ (.bool false)) w.heap.size (w.heap.size + 1) (w.heap.size + 1 + 1) fb fc w1.heap.size (.slice none 0 0) [] := by
    obtain ⟨y0, y1, y2⟩ := Y1.out
    obtain ⟨s0, s1, s2, sB, _⟩ := HS.out
    have hsz := HSZ.out
    have hfl := (y1.lt fb rfl).2
    have h2 := (hso (w := w1) (b := w.heap.size + 1 + 1) (o := 0) (j := fb) (.slice (some ⟨fb, 0, none⟩) n fc) (by omega))
    have hw := row_at (w' := w1.setCell ⟨w.heap.size + 1 + 1, 0, none⟩ (.slice (some ⟨fb, 0, none⟩) n fc)) y1 h2
    have hst := (hw.stored u (.bool false)).1
    rw [← List.map_set] at hst
    refine ⟨?_, ?_, ?_, rowX_base hst (by omega), World.ownsRow_nil _ _ _ _, ?_, by omega, by omega, by omega, hfl, by simp⟩
    · rw [hso _ (by omega), hso _ (by omega)]; exact (y2.block _ (lt_of_get s0)).trans s0
    · rw [hso _ (by omega), hso _ (by omega)]; exact (y2.block _ (lt_of_get s1)).trans s1
    · rw [hso _ (by omega), hsc_same _ ((y2.block _ (lt_of_get s2)).trans s2)]; rfl
    · exact (sB.trans (y2.mono (by omega))).trans (((Below.refl _ w1).setCell (p := ⟨w.heap.size + 1 + 1, 0, none⟩) (show w.heap.size ≤ w.heap.size + 1 + 1 by omega) _).setCell (p := ⟨fb, u, none⟩) (show w.heap.size ≤ fb by omega) _)
  have HRM : Hid (type_of% hRM) := hRM
  have hws : (w1.setCell ⟨w.heap.size + 1 + 1, 0, none⟩ (.slice (some ⟨fb, 0, none⟩) n fc)).cell? ⟨fb, u, none⟩ = some (.bool (liv bs u)) ∧ (w1.setCell ⟨w.heap.size + 1 + 1, 0, none⟩ (.slice (some ⟨fb, 0, none⟩) n fc)).frozen? ⟨fb, u, none⟩ = false ∧ fb < (w1.setCell ⟨w.heap.size + 1 + 1, 0, none⟩ (.slice (some ⟨fb, 0, none⟩) n fc)).heap.size := by
    obtain ⟨y0, y1, y2⟩ := Y1.out
    have hsz := HSZ.out
    have hfl := (y1.lt fb rfl).2
    have h2 := (hso (w := w1) (b := w.heap.size + 1 + 1) (o := 0) (j := fb) (.slice (some ⟨fb, 0, none⟩) n fc) (by omega))
    have hw := row_at (w' := w1.setCell ⟨w.heap.size + 1 + 1, 0, none⟩ (.slice (some ⟨fb, 0, none⟩) n fc)) y1 h2
    obtain ⟨g', e, _, h3⟩ := (fl_of_row HL.out hw).at (m := u) (by have := HL.out; omega)
    obtain rfl := addr_inj e
    exact ⟨h3, hw.frozenAt u, by simpa using hfl⟩
  have hpw : (w1.setCell ⟨w.heap.size + 1 + 1, 0, none⟩ (.slice (some ⟨fb, 0, none⟩) n fc)).cell? ⟨w.heap.size + 1 + 1, 0, none⟩ = some (.slice (some ⟨fb, 0, none⟩) n fc) ∧ w.heap.size + 1 + 1 < (w1.setCell ⟨w.heap.size + 1 + 1, 0, none⟩ (.slice (some ⟨fb, 0, none⟩) n fc)).heap.size := by
    obtain ⟨y0, y1, y2⟩ := Y1.out
    have h := hsc_same (o := 0) (.slice (some ⟨fb, 0, none⟩) n fc) ((y2.block _ (lt_of_get HS.out.2.2.1)).trans HS.out.2.2.1)
    exact ⟨by simp [World.cell?, h], lt_of_get h⟩
  generalize (w1.setCell ⟨w.heap.size + 1 + 1, 0, none⟩ (.slice (some ⟨fb, 0, none⟩) n fc)) = W4 at *
  generalize w1.heap.size = B at *
  clear d0 d1 d2 d3 ds hRM Y1 HS HSZ o1 o2
  obtain ⟨k0, k1, k2⟩ := hws
  obtain ⟨k3, k4⟩ := hpw
  generalize w.heap.size + 1 + 1 = p2 at *
  generalize w.heap.size + 1 = p1 at *
  generalize liv bs u = lb0 at *
  obtain ⟨fs, hfs⟩ : ∃ fs, (bs.set u false).map Value.bool = fs := ⟨_, rfl⟩
  rw [hfs] at HRM
  have HFS : Hid ((bs.set u false).map Value.bool = fs) := hfs
  clear hfs
  go_upto_region 4 with fail
  generalize (W4.setCell ⟨fb, u, none⟩ (.bool false)) = W5 at *
  clear k0 k1 k2 k3 k4
  obtain ⟨c0, c1, _, _⟩ := cell_two HRM.out.o
  have cs := lt_of_get HRM.out.o
  go_wp2_with fail
  clear c0 c1 cs
  go_loopw [21] (fun iv wr => ∃ (k : Nat) (so : Option Addr) (sc : Nat), k ≤ zs.length ∧ iv = .int .i64 (k : Nat) ∧ RM (.slice (some ⟨g, 0, none⟩) n c) (.slice ao zs.length cap) n fs w wr w.heap.size p1 p2 fb fc B (.slice so (remZ (zs.take k) (u : Int)).length sc) (remZ (zs.take k) (u : Int))) (fun iv _ => zs.length - (intOf iv).toNat)
  case atStart => exact ⟨0, none, 0, Nat.zero_le _, rfl, HRM.out⟩
  case round =>
    obtain ⟨k, so, sc, hk, rfl, hM⟩ := hrel
    by_cases hlt : k < zs.length
    · obtain ⟨z, hzk⟩ : ∃ z, zs[k]? = some z := ⟨zs[k], List.getElem?_eq_getElem hlt⟩
      obtain ⟨lb, lof, rfl, ll, q0, q1, q2, q3⟩ := (HA.out wr hM.bel).at hzk
      obtain ⟨hs1, hs2⟩ := remZ_succ hzk (u : Int)
      have hle : (remZ (zs.take k) (u : Int)).length ≤ 262144 := Nat.le_trans (remZ_len _ _) (by rw [List.length_take]; omega)
      obtain ⟨z0, z1, z2, z3⟩ := z
      simp only at q0 q1 q2 q3 hs1 hs2
      obtain ⟨L, hL⟩ : ∃ L, remZ (zs.take k) (u : Int) = L := ⟨_, rfl⟩
      rw [hL] at hM hs1 hs2 hle
      obtain ⟨Wa, hWa⟩ : ∃ Wa, wr.alloc (.cells #[.int .i64 z0, .int .i64 z1, .int .u64 z2, .int .i64 z3] 86) = Wa := ⟨_, rfl⟩
      have HWA : Hid (wr.alloc (.cells #[.int .i64 z0, .int .i64 z1, .int .u64 z2, .int .i64 z3] 86) = Wa) := hWa
      have hnew : Wa.heap[wr.heap.size]? = some (.cells #[.int .i64 z0, .int .i64 z1, .int .u64 z2, .int .i64 z3] 86) := by rw [← hWa]; exact heap_new _ _
      have hMa := hM.keep (w' := Wa) (by rw [← hWa]; exact bel_one _ _)
      have HMA : Hid (type_of% hMa) := hMa
      have hMb := hMa.keep (bel_one Wa (.cells #[.int .i64 z0, .int .i64 z1, .int .u64 z2, .int .i64 z3] 86))
      have HMB : Hid (type_of% hMb) := hMb
      have HON : Hid (type_of% (a4_one Wa (z0, z1, z2, z3) 86)) := a4_one Wa (z0, z1, z2, z3) 86
      have n0 : Wa.cell? ⟨wr.heap.size, 0, none⟩ = some (.int .i64 z0) := by simp [World.cell?, hnew]
      have n1 : Wa.cell? ⟨wr.heap.size, 1, none⟩ = some (.int .i64 z1) := by simp [World.cell?, hnew]
      have n2 : Wa.cell? ⟨wr.heap.size, 2, none⟩ = some (.int .u64 z2) := by simp [World.cell?, hnew]
      have n3 : Wa.cell? ⟨wr.heap.size, 3, none⟩ = some (.int .i64 z3) := by simp [World.cell?, hnew]
      have ns : wr.heap.size < Wa.heap.size := lt_of_get hnew
      obtain ⟨d0, d1, _, _⟩ := cell_two hMa.p
      have ds := lt_of_get hMa.p
      have t1 : (k : Int) < (zs.length : Int) := by omega
      have t2 : (0 : Int) ≤ (k : Int) := by omega
      clear hzk hL hWa hnew hM hMa hMb
      by_cases e0 : z0 = (u : Int)
      · have HS1 : Hid (remZ (zs.take (k + 1)) (u : Int) = L) := hs1 (Or.inl e0)
        have b0 : (z0 != (u : Int)) = false := by simp [e0]
        clear hs1 hs2
        subst e0
        go_upto_region 7 with fail
        rw [HWA.out]
        go_wp2
        go_roundw
        case rel => exact ⟨k + 1, so, sc, by omega, by go_num, by rw [HS1.out]; exact HMA.out⟩
        case measure => simp [intOf]; omega
      · have b0 : (z0 != (u : Int)) = true := bne_iff_ne.2 e0
        by_cases e1 : z1 = (u : Int)
        · have HS1 : Hid (remZ (zs.take (k + 1)) (u : Int) = L) := hs1 (Or.inr e1)
          have b1 : (z1 != (u : Int)) = false := by simp [e1]
          clear hs1 hs2
          subst e1
          go_upto_region 7 with fail
          rw [HWA.out]
          go_wp2
          go_roundw
          case rel => exact ⟨k + 1, so, sc, by omega, by go_num, by rw [HS1.out]; exact HMA.out⟩
          case measure => simp [intOf]; omega
        · have HS2 : Hid (remZ (zs.take (k + 1)) (u : Int) = L ++ [(z0, z1, z2, z3)]) := hs2 (fun e => e.elim e0 e1)
          have b1 : (z1 != (u : Int)) = true := bne_iff_ne.2 e1
          clear hs1 hs2
          go_upto_region 7 with fail
          rw [HWA.out]
          go_wp2_with (at_builtin; refine wpList_append_a4 rfl _ _ rfl B (.slice so L.length sc) L rfl HMB.out.own ⟨Wa.heap.size, 0, none⟩ 1 [(z0, z1, z2, z3)] rfl HON.out (by simp only [List.length_cons, List.length_nil]; omega) HMB.out.ord.2.2.2.2 ?_; intro v' w' hown hgr; obtain ⟨ro, rc, hv⟩ := row4_slice hown; subst hv; obtain ⟨x1, x2, x3⟩ := HMB.out.grown hgr; have Y : Hid (type_of% (HMB.out.put hown hgr)) := HMB.out.put hown hgr; clear hown hgr; generalize L ++ [(z0, z1, z2, z3)] = L2 at *)
          go_roundw
          case rel => exact ⟨k + 1, ro, rc, by omega, by go_num, by rw [HS2.out]; exact Y.out⟩
          case measure => simp [intOf]; omega
    · obtain rfl : k = zs.length := by omega
      rw [List.take_length] at hM
      obtain ⟨L, hL⟩ : ∃ L, remZ zs (u : Int) = L := ⟨_, rfl⟩
      rw [hL] at hM
      have HLL : Hid (remZ zs (u : Int) = L) := hL
      have HM : Hid (type_of% hM) := hM
      clear hL
      clear hM
      obtain ⟨e0, e1, _, _⟩ := cell_two HM.out.p
      have es := lt_of_get HM.out.p
      obtain ⟨r0, r1, f0, f1⟩ := cell_two HM.out.r
      have rs := lt_of_get HM.out.r
      have o1 : p1 ≠ p2 := by have := HM.out.ord; omega
      have o2 : p2 ≠ p1 := by have := HM.out.ord; omega
      go_wp2
      have y1 := two_set (v0 := .slice (some ⟨fb, 0, none⟩) n fc) (v1 := .slice so L.length sc) HM.out.r
      have y2 : Below w.heap.size w ((wr.setCell ⟨p1, 0, none⟩ (.slice (some ⟨fb, 0, none⟩) n fc)).setCell ⟨p1, 1, none⟩ (.slice so L.length sc)) := HM.out.bel.trans (two_below (by have := HM.out.ord; omega))
      have y3 : ((wr.setCell ⟨p1, 0, none⟩ (.slice (some ⟨fb, 0, none⟩) n fc)).setCell ⟨p1, 1, none⟩ (.slice so L.length sc)).ownsRow w.heap.size 86 4 (.slice so L.length sc) L.length (flatA4 L) := by
        have o := HM.out.ord
        exact row4_base (row4_keep HM.out.own (fun g h1 _ => (hso _ (by omega)).trans (hso _ (by omega)))) (by omega)
      have y4 : ((wr.setCell ⟨p1, 0, none⟩ (.slice (some ⟨fb, 0, none⟩) n fc)).setCell ⟨p1, 1, none⟩ (.slice so L.length sc)).ownsRow w.heap.size 4 1 (.slice (some ⟨fb, 0, none⟩) n fc) n fs := by
        have o := HM.out.ord
        exact row_at HM.out.fl ((hso _ (by omega)).trans (hso _ (by omega)))
      generalize ((wr.setCell ⟨p1, 0, none⟩ (.slice (some ⟨fb, 0, none⟩) n fc)).setCell ⟨p1, 1, none⟩ (.slice so L.length sc)) = Wf at *
      obtain ⟨u0, u1, _, _⟩ := cell_two y1
      refine bodyPost_ret (v := .agg #[.slice (some ⟨fb, 0, none⟩) n fc, .slice so L.length sc]) (by simp [results, Tryz.results30, go_sem, u0, u1]) rfl ⟨y2, fb, fc, so, sc, by rw [HLL.out], by rw [HFS.out]; exact y4, by rw [HLL.out]; exact y3⟩
end Go.Proofs.YtbkclhaonbjobaaGreatDoor
