/- viaductref08.Run, walked, at weights up to 2^47. (genwta.py) -/
import Derived.Test.YtbkclhaonbjobaaGreatDoorWtA
import Derived.Test.YtbkclhaonbjobaaGreatDoorWtE
import Derived.BigQuiet
import Derived.Deep.RegionHeld
import Derived.Deep.DeepCutAuto
namespace Go.Proofs.YtbkclhaonbjobaaGreatDoor.Wt
open Go.RowKit Go.Extern

attribute [local go_sem] Oper.semAt_some

theorem infoJ : (Tryz.prog.info? 3).map (fun i => (i.zero, i.size, i.bytes)) = some (some (.int .i64 0), 1, 8) := by kernel_rfl
theorem btr {w wm wy : World} (h1 : Below w.heap.size w wm) (h2 : Below wm.heap.size wm wy) : Below w.heap.size w wy := h1.trans (h2.mono h1.size)
theorem cell_two {w : World} {b : Nat} {c0 c1 : Value} {T : TypeId} (h : w.heap[b]? = some (.cells #[c0, c1] T)) : w.cell? ⟨b, 0, none⟩ = some c0 ∧ w.cell? ⟨b, 1, none⟩ = some c1 ∧ w.frozen? ⟨b, 0, none⟩ = false ∧ w.frozen? ⟨b, 1, none⟩ = false := ⟨by simp [World.cell?, h], by simp [World.cell?, h], by simp [World.frozen?, h], by simp [World.frozen?, h]⟩
/-- a row of truths. -/
def Bools (w : World) (b : Nat) (l : List Bool) : Prop := w.heap[b]? = some (.cells (l.map Value.bool).toArray 4)
theorem Bools.at {w : World} {b : Nat} {l : List Bool} (h : Bools w b l) {k : Nat} {x : Bool} (hk : l[k]? = some x) : w.cell? ⟨b, k, none⟩ = some (.bool x) ∧ b < w.heap.size ∧ w.frozen? ⟨b, k, none⟩ = false := by
  refine ⟨?_, lt_of_get h, ?_⟩
  · simp [World.cell?, show w.heap[b]? = _ from h, hk]
  · simp [World.frozen?, show w.heap[b]? = _ from h]
theorem box4 {w : World} {b : Nat} {a c d e : Value} {T : TypeId} (h : w.heap[b]? = some (.cells #[a, c, d, e] T)) : w.cell? ⟨b, 0, none⟩ = some a ∧ w.cell? ⟨b, 1, none⟩ = some c ∧ w.cell? ⟨b, 2, none⟩ = some d ∧ w.cell? ⟨b, 3, none⟩ = some e := by
  simp [World.cell?, h]
set_option maxRecDepth 100000 in
set_option maxHeartbeats 4000000 in
theorem take_calls (n db kb hb sb dc kc hc sc : Nat) (D : List Int) (Ha Se : List Bool) (w : World) (hD : U64s w db D) (hH : Bools w hb Ha) (hS : Bools w sb Se) (lD : D.length = n) (lH : Ha.length = n) (lS : Se.length = n) (hn : n ≤ 65536) :
    Calls Tryz.prog 105 #[.agg #[.slice (some ⟨db, 0, none⟩) n dc, .slice (some ⟨kb, 0, none⟩) n kc, .slice (some ⟨hb, 0, none⟩) n hc, .slice (some ⟨sb, 0, none⟩) n sc]] w fun e w' => (∃ r, e = .returned (.int .i64 r) ∧ Takes D Ha Se n r) ∧ Below w.heap.size w w' := by
  obtain ⟨W0, hW0⟩ : ∃ W0, w.alloc (.cells #[.slice (some ⟨db, 0, none⟩) n dc, .slice (some ⟨kb, 0, none⟩) n kc, .slice (some ⟨hb, 0, none⟩) n hc, .slice (some ⟨sb, 0, none⟩) n sc] 168) = W0 := ⟨_, rfl⟩
  have HW0 : Hid (w.alloc (.cells #[.slice (some ⟨db, 0, none⟩) n dc, .slice (some ⟨kb, 0, none⟩) n kc, .slice (some ⟨hb, 0, none⟩) n hc, .slice (some ⟨sb, 0, none⟩) n sc] 168) = W0) := hW0
  have hB0 : Below w.heap.size w W0 := by rw [← hW0]; exact (Below.refl _ w).alloc (Nat.le_refl _) _
  have hbx : W0.heap[w.heap.size]? = some (.cells #[.slice (some ⟨db, 0, none⟩) n dc, .slice (some ⟨kb, 0, none⟩) n kc, .slice (some ⟨hb, 0, none⟩) n hc, .slice (some ⟨sb, 0, none⟩) n sc] 168) := by rw [← hW0]; exact heap_new _ _
  have HK : Hid (∀ wx, Below W0.heap.size W0 wx → (wx.cell? ⟨w.heap.size, 0, none⟩ = some (.slice (some ⟨db, 0, none⟩) n dc) ∧ wx.cell? ⟨w.heap.size, 1, none⟩ = some (.slice (some ⟨kb, 0, none⟩) n kc) ∧ wx.cell? ⟨w.heap.size, 2, none⟩ = some (.slice (some ⟨hb, 0, none⟩) n hc) ∧ wx.cell? ⟨w.heap.size, 3, none⟩ = some (.slice (some ⟨sb, 0, none⟩) n sc)) ∧ w.heap.size < wx.heap.size ∧ Below w.heap.size w wx ∧ U64s wx db D ∧ Bools wx hb Ha ∧ Bools wx sb Se) := fun wx hwx => by
    have hg := (hwx.block _ (lt_of_get hbx)).trans hbx
    have hb' := hB0.trans (hwx.mono hB0.size)
    exact ⟨box4 hg, lt_of_get hg, hb', (hb'.block _ (lt_of_get hD)).trans hD, (hb'.block _ (lt_of_get hH)).trans hH, (hb'.block _ (lt_of_get hS)).trans hS⟩
  obtain ⟨⟨c0, c1, c2, c3⟩, cs, _⟩ := HK.out W0 (Below.refl _ _)
  have HL : Hid (D.length = n ∧ Ha.length = n ∧ Se.length = n) := ⟨lD, lH, lS⟩
  clear hW0 hB0 hbx hD hH hS lD lH lS
  go_enter Tryz.func105, Tryz.ntmps105
  go_wp2_with fail
  rw [HW0.out]
  clear c0 c1 c2 c3 cs
  go_loopw [3, 8] (fun av iv' wr => ∃ (i : Nat) (r : Int), i ≤ n ∧ iv' = .int .i64 i ∧ av = .int .i64 r ∧ Takes D Ha Se i r ∧ Below W0.heap.size W0 wr) (fun _ iv' _ => n - (intOf iv').toNat)
  case atStart => exact ⟨0, -1, Nat.zero_le _, rfl, rfl, Or.inl ⟨rfl, fun u j hu => by omega⟩, Below.refl _ _⟩
  case round =>
    obtain ⟨i, r, hi, rfl, rfl, hT, hb'⟩ := hrel
    have HB : Hid (Below W0.heap.size W0 wr) := hb'
    have HT : Hid (Takes D Ha Se i r) := hT
    obtain ⟨⟨c0, c1, c2, c3⟩, cs, hbw, uD, uH, uS⟩ := HK.out wr hb'
    have HBW : Hid (Below w.heap.size w wr) := hbw
    clear hb' hT hbw
    by_cases hlt : i < n
    · obtain ⟨x, hx⟩ : ∃ x, D[i]? = some x := ⟨D[i]'(by rw [HL.out.1]; exact hlt), List.getElem?_eq_getElem _⟩
      obtain ⟨a, ha⟩ : ∃ a, Ha[i]? = some a := ⟨Ha[i]'(by rw [HL.out.2.1]; exact hlt), List.getElem?_eq_getElem _⟩
      obtain ⟨b, hb1⟩ : ∃ b, Se[i]? = some b := ⟨Se[i]'(by rw [HL.out.2.2]; exact hlt), List.getElem?_eq_getElem _⟩
      obtain ⟨q0, l0, _⟩ := uD.at hx
      obtain ⟨q1, l1, _⟩ := uH.at ha
      obtain ⟨q2, l2, _⟩ := uS.at hb1
      have HX : Hid (D[i]? = some x ∧ Ha[i]? = some a ∧ Se[i]? = some b) := ⟨hx, ha, hb1⟩
      have i1 : (i : Int) < (n : Int) := by omega
      have i2 : (0 : Int) ≤ (i : Int) := by omega
      have HNO : Hid (¬ (a = true ∧ b = false) → Takes D Ha Se (i + 1) r) := fun hno => by
        have hn' : ∀ j, ¬ opn D Ha Se i j := fun j ⟨_, o2, o3⟩ => hno ⟨by rw [ha] at o2; exact Option.some.inj o2, by rw [hb1] at o3; exact Option.some.inj o3⟩
        rcases HT.out with ⟨h1, h2⟩ | ⟨v, k, h1, h2⟩
        · exact Or.inl ⟨h1, h2.next hn'⟩
        · exact Or.inr ⟨v, k, h1, h2.skip fun j ho => absurd ho (hn' j)⟩
      cases a with
      | false =>
        clear hx ha hb1 uD uH uS
        go_wp2_with fail
        go_quiet (fail)
        have HB4 : Hid (Below W0.heap.size W0 (wr.drewN nq)) := below_drewN HB.out nq
        go_wp2
        go_roundw
        case rel => exact ⟨i + 1, r, by omega, by go_num, rfl, HNO.out (by simp), HB4.out⟩
        case measure => simp [intOf]; omega
      | true =>
        cases b with
        | true =>
          clear hx ha hb1 uD uH uS
          go_wp2_with fail
          go_quiet (fail)
          have HB4 : Hid (Below W0.heap.size W0 (wr.drewN nq)) := below_drewN HB.out nq
          go_wp2
          go_roundw
          case rel => exact ⟨i + 1, r, by omega, by go_num, rfl, HNO.out (by simp), HB4.out⟩
          case measure => simp [intOf]; omega
        | false =>
          rcases HT.out with ⟨h1, h2⟩ | ⟨v, k, h1, h2⟩
          · have HF : Hid (Takes D Ha Se (i + 1) (i : Int)) := Or.inr ⟨i, x, rfl, LU.first h2 ⟨hx, ha, hb1⟩⟩
            subst h1
            clear hx ha hb1 uD uH uS h2
            go_wp2_with fail
            go_quiet (fail)
            have HB4 : Hid (Below W0.heap.size W0 (wr.drewN nq)) := below_drewN HB.out nq
            go_wp2
            go_roundw
            case rel => exact ⟨i + 1, (i : Int), by omega, by go_num, rfl, HF.out, HB4.out⟩
            case measure => simp [intOf]; omega
          · have HV : Hid (LU D Ha Se i v k) := h2
            obtain ⟨q3, _, _⟩ := uD.at h2.2.1.1
            have hvi := h2.1
            have j1 : (v : Int) < (n : Int) := by omega
            have j2 : (0 : Int) ≤ (v : Int) := by omega
            have j3 : ¬ (v : Int) < 0 := by omega
            subst h1
            by_cases hxk : x < k
            · have HF : Hid (Takes D Ha Se (i + 1) (i : Int)) := Or.inr ⟨i, x, rfl, h2.take ⟨hx, ha, hb1⟩ hxk⟩
              clear hx ha hb1 uD uH uS h2
              go_wp2_with fail
              go_quiet (fail)
              have HB4 : Hid (Below W0.heap.size W0 (wr.drewN nq)) := below_drewN HB.out nq
              go_wp2
              go_roundw
              case rel => exact ⟨i + 1, (i : Int), by omega, by go_num, rfl, HF.out, HB4.out⟩
              case measure => simp [intOf]; omega
            · have HF : Hid (Takes D Ha Se (i + 1) (v : Int)) := Or.inr ⟨v, k, rfl, h2.skip fun j ho => by
                have h3 := ho.1
                rw [hx] at h3
                cases h3
                omega⟩
              clear hx ha hb1 uD uH uS h2
              go_wp2_with fail
              go_quiet (fail)
              have HB4 : Hid (Below W0.heap.size W0 (wr.drewN nq)) := below_drewN HB.out nq
              go_wp2
              go_roundw
              case rel => exact ⟨i + 1, (v : Int), by omega, by go_num, rfl, HF.out, HB4.out⟩
              case measure => simp [intOf]; omega
    · obtain rfl : i = n := by omega
      clear uD uH uS c0 c1 c2 c3 cs
      go_wp2
      go_ret
      exact ⟨⟨r, rfl, HT.out⟩, HBW.out⟩
/-- a row of numbers. -/
def IRow (w : World) (b : Nat) (l : List Int) : Prop := w.heap[b]? = some (.cells (l.map (Value.int .i64)).toArray 3)
theorem IRow.at {w : World} {b : Nat} {l : List Int} (h : IRow w b l) {k : Nat} {x : Int} (hk : l[k]? = some x) : w.cell? ⟨b, k, none⟩ = some (.int .i64 x) ∧ b < w.heap.size ∧ w.frozen? ⟨b, k, none⟩ = false := by
  refine ⟨?_, lt_of_get h, ?_⟩
  · simp [World.cell?, show w.heap[b]? = _ from h, hk]
  · simp [World.frozen?, show w.heap[b]? = _ from h]
theorem IRow.set {w : World} {b : Nat} {D : List Int} (h : IRow w b D) (k : Nat) (x : Int) : IRow (w.setCell ⟨b, k, none⟩ (.int .i64 x)) b (D.set k x) := by
  unfold IRow
  rw [Go.heap_setCell_same _ _ k _ _ _ h]
  congr 2
  rw [List.setIfInBounds_toArray, List.map_set]
theorem Bools.set {w : World} {b : Nat} {D : List Bool} (h : Bools w b D) (k : Nat) (x : Bool) : Bools (w.setCell ⟨b, k, none⟩ (.bool x)) b (D.set k x) := by
  unfold Bools
  rw [Go.heap_setCell_same _ _ k _ _ _ h]
  congr 2
  rw [List.setIfInBounds_toArray, List.map_set]
theorem made_list (z : Value) (n : Nat) : madeCells #[z] n = (List.replicate n z).toArray := by
  apply Array.ext'
  rw [toList_madeCells_one z n]
theorem made_ints {w : World} {b n : Nat} (h : w.heap[b]? = some (.cells (madeCells #[.int .i64 0] n) 3)) : IRow w b (List.replicate n 0) := by
  unfold IRow
  rw [h, made_list]
  simp
theorem made_u64s' {w : World} {b n : Nat} (h : w.heap[b]? = some (.cells (madeCells #[.int .u64 0] n) 66)) : U64s w b (List.replicate n 0) := by
  unfold U64s
  rw [h, made_list]
  simp
theorem made_bools {w : World} {b n : Nat} (h : w.heap[b]? = some (.cells (madeCells #[.bool false] n) 4)) : Bools w b (List.replicate n false) := by
  unfold Bools
  rw [h, made_list]
  simp
/-- the lists of a search in memory. -/
structure RI (B n : Nat) (w : World) (bx db kb hb sb : Nat) (D K : List Int) (Ha Se : List Bool) : Prop where
  box : w.heap[bx]? = some (.cells #[.slice (some ⟨db, 0, none⟩) n n, .slice (some ⟨kb, 0, none⟩) n n, .slice (some ⟨hb, 0, none⟩) n n, .slice (some ⟨sb, 0, none⟩) n n] 168)
  d : U64s w db D
  k : IRow w kb K
  h : Bools w hb Ha
  s : Bools w sb Se
  low : B ≤ bx ∧ B ≤ db ∧ B ≤ kb ∧ B ≤ hb ∧ B ≤ sb
  ne : bx ≠ db ∧ bx ≠ kb ∧ bx ≠ hb ∧ bx ≠ sb ∧ db ≠ kb ∧ db ≠ hb ∧ db ≠ sb ∧ kb ≠ hb ∧ kb ≠ sb ∧ hb ≠ sb
section
variable {B n : Nat} {w w' : World} {bx db kb hb sb : Nat} {D K : List Int} {Ha Se : List Bool}
theorem RI.keep (r : RI B n w bx db kb hb sb D K Ha Se) (hb' : Below w.heap.size w w') : RI B n w' bx db kb hb sb D K Ha Se :=
  ⟨(hb'.block _ (lt_of_get r.box)).trans r.box, (hb'.block _ (lt_of_get r.d)).trans r.d, (hb'.block _ (lt_of_get r.k)).trans r.k, (hb'.block _ (lt_of_get r.h)).trans r.h, (hb'.block _ (lt_of_get r.s)).trans r.s, r.low, r.ne⟩
theorem RI.setD (r : RI B n w bx db kb hb sb D K Ha Se) (x : Nat) (y : Int) : RI B n (w.setCell ⟨db, x, none⟩ (.int .u64 y)) bx db kb hb sb (D.set x y) K Ha Se := by
  obtain ⟨n1, n2, n3, n4, n5, n6, n7, n8, n9, n0⟩ := r.ne
  exact ⟨(heap_setCell_other _ _ _ _ n1).trans r.box, r.d.set x y, (heap_setCell_other _ _ _ _ (Ne.symm n5)).trans r.k, (heap_setCell_other _ _ _ _ (Ne.symm n6)).trans r.h, (heap_setCell_other _ _ _ _ (Ne.symm n7)).trans r.s, r.low, r.ne⟩
theorem RI.setK (r : RI B n w bx db kb hb sb D K Ha Se) (x : Nat) (y : Int) : RI B n (w.setCell ⟨kb, x, none⟩ (.int .i64 y)) bx db kb hb sb D (K.set x y) Ha Se := by
  obtain ⟨n1, n2, n3, n4, n5, n6, n7, n8, n9, n0⟩ := r.ne
  exact ⟨(heap_setCell_other _ _ _ _ n2).trans r.box, (heap_setCell_other _ _ _ _ n5).trans r.d, r.k.set x y, (heap_setCell_other _ _ _ _ (Ne.symm n8)).trans r.h, (heap_setCell_other _ _ _ _ (Ne.symm n9)).trans r.s, r.low, r.ne⟩
theorem RI.setH (r : RI B n w bx db kb hb sb D K Ha Se) (x : Nat) (y : Bool) : RI B n (w.setCell ⟨hb, x, none⟩ (.bool y)) bx db kb hb sb D K (Ha.set x y) Se := by
  obtain ⟨n1, n2, n3, n4, n5, n6, n7, n8, n9, n0⟩ := r.ne
  exact ⟨(heap_setCell_other _ _ _ _ n3).trans r.box, (heap_setCell_other _ _ _ _ n6).trans r.d, (heap_setCell_other _ _ _ _ n8).trans r.k, r.h.set x y, (heap_setCell_other _ _ _ _ (Ne.symm n0)).trans r.s, r.low, r.ne⟩
theorem RI.setS (r : RI B n w bx db kb hb sb D K Ha Se) (x : Nat) (y : Bool) : RI B n (w.setCell ⟨sb, x, none⟩ (.bool y)) bx db kb hb sb D K Ha (Se.set x y) := by
  obtain ⟨n1, n2, n3, n4, n5, n6, n7, n8, n9, n0⟩ := r.ne
  exact ⟨(heap_setCell_other _ _ _ _ n4).trans r.box, (heap_setCell_other _ _ _ _ n7).trans r.d, (heap_setCell_other _ _ _ _ n9).trans r.k, (heap_setCell_other _ _ _ _ n0).trans r.h, r.s.set x y, r.low, r.ne⟩
end
section
variable (w : World) (o0 o1 o2 o3 o4 : Obj)
end
/-- the arcs of a node, as the reference's search has them. -/
def arcsOf (zs : List (Int × Int × Int)) (v : Nat) : List (Int × Int × Int) := arcRow zs (firstAt zs v) (firstAt zs (v + 1))
theorem arcsOf_len (zs : List (Int × Int × Int)) (v : Nat) : (arcsOf zs v).length ≤ zs.length := by
  unfold arcsOf arcRow
  rw [List.length_drop, List.length_take]
  omega
def HalfIn (w : World) (o : Option Addr) (l : List (Int × Int × Int)) : Prop := ∀ (j : Nat) (a : Int × Int × Int), l[j]? = some a → ∃ b off, o = some ⟨b, off, none⟩ ∧ b < w.heap.size ∧ w.cell? ⟨b, off + j * 2, none⟩ = some (.int .i64 a.2.1) ∧ w.cell? ⟨b, off + j * 2 + 1, none⟩ = some (.int .u64 a.2.2)
structure RowsIn (w : World) (rb n : Nat) (zs : List (Int × Int × Int)) : Prop where
  lt : rb < w.heap.size
  row : ∀ v : Nat, v < n → ∃ o c, w.cell? ⟨rb, v, none⟩ = some (.slice o (arcsOf zs v).length c) ∧ HalfIn w o (arcsOf zs v)
theorem HalfIn.keep {w w' : World} {o : Option Addr} {l : List (Int × Int × Int)} (h : HalfIn w o l) (hb : Below w.heap.size w w') : HalfIn w' o l := fun j a ha => by
  obtain ⟨b, off, e, hl, h0, h1⟩ := h j a ha
  exact ⟨b, off, e, Nat.lt_of_lt_of_le hl hb.size, (hb.cell (p := ⟨b, _, none⟩) hl).trans h0, (hb.cell (p := ⟨b, _, none⟩) hl).trans h1⟩
theorem RowsIn.keep {w w' : World} {rb n : Nat} {zs : List (Int × Int × Int)} (h : RowsIn w rb n zs) (hb : Below w.heap.size w w') : RowsIn w' rb n zs := ⟨Nat.lt_of_lt_of_le h.lt hb.size, fun v hv => by
  obtain ⟨o, c, h0, h1⟩ := h.row v hv
  exact ⟨o, c, (hb.cell (p := ⟨rb, v, none⟩) h.lt).trans h0, h1.keep hb⟩⟩
theorem RR.leastOf {n : Nat} {S : FS} {D K : List Int} {Ha Se : List Bool} (h : RR n S D K Ha Se) (ho : ∀ (v : Nat) (k : Int), v < n → S.f (v : Int) = some k → S.vs[v]? = some (some k)) {v : Nat} {k : Int} (hL : LU D Ha Se n v k) : Least n S.f v k := by
  obtain ⟨h2, h3, h4⟩ := hL
  refine ⟨h2, (h.opn ho h2).1 h3, fun e j he hj hlt => ?_⟩
  have := h4 e j he ((h.opn ho he).2 hj)
  unfold ltT at hlt
  simp only at hlt
  omega
theorem RR.noneOf {n : Nat} {S : FS} {D K : List Int} {Ha Se : List Bool} (h : RR n S D K Ha Se) (ho : ∀ (v : Nat) (k : Int), v < n → S.f (v : Int) = some k → S.vs[v]? = some (some k)) (hN : NU D Ha Se n) : ∀ d : Nat, d < n → S.f (d : Int) = none := fun d hd => by
  cases hf : S.f (d : Int) with
  | none => rfl
  | some j => exact absurd ((h.opn ho hd).2 hf) (hN d j hd)
/-- the lists are told: they are stored as the result. -/
def lay4 (W : World) (b : Nat) (c0 c1 c2 c3 : Value) : World := (((W.setCell ⟨b, 0, none⟩ c0).setCell ⟨b, 1, none⟩ c1).setCell ⟨b, 2, none⟩ c2).setCell ⟨b, 3, none⟩ c3
theorem lay4_far {W : World} {b : Nat} {c0 c1 c2 c3 : Value} {g : Nat} (hg : g ≠ b) : (lay4 W b c0 c1 c2 c3).heap[g]? = W.heap[g]? := (heap_setCell_other _ _ _ _ hg).trans ((heap_setCell_other _ _ _ _ hg).trans ((heap_setCell_other _ _ _ _ hg).trans (heap_setCell_other _ _ _ _ hg)))
theorem lay4_below {w W : World} {b : Nat} {c0 c1 c2 c3 : Value} (h : Below w.heap.size w W) (hb : w.heap.size ≤ b) : Below w.heap.size w (lay4 W b c0 c1 c2 c3) := (((h.setCell (p := ⟨b, 0, none⟩) hb _).setCell (p := ⟨b, 1, none⟩) hb _).setCell (p := ⟨b, 2, none⟩) hb _).setCell (p := ⟨b, 3, none⟩) hb _
theorem zero4 {w : World} {b : Nat} {a c d e : Value} {T : TypeId} (h : w.heap[b]? = some (.cells #[a, c, d, e] T)) : w.cell? ⟨b, 0, none⟩ = some a ∧ w.cell? ⟨b, 1, none⟩ = some c ∧ w.cell? ⟨b, 2, none⟩ = some d ∧ w.cell? ⟨b, 3, none⟩ = some e ∧ w.frozen? ⟨b, 0, none⟩ = false ∧ w.frozen? ⟨b, 1, none⟩ = false ∧ w.frozen? ⟨b, 2, none⟩ = false ∧ w.frozen? ⟨b, 3, none⟩ = false ∧ b < w.heap.size := by
  refine ⟨?_, ?_, ?_, ?_, ?_, ?_, ?_, ?_, lt_of_get h⟩ <;> simp [World.cell?, World.frozen?, h]
theorem RI.fin {B n : Nat} {w W0 wx : World} {bx db kb hb sb : Nat} {D K : List Int} {Ha Se : List Bool} (r : RI B n wx bx db kb hb sb D K Ha Se) (hB : w.heap.size + 1 ≤ B) (h0 : Below w.heap.size w W0) (h1 : Below B W0 wx) {c0 c1 c2 c3 : Value} : (U64s (lay4 wx w.heap.size c0 c1 c2 c3) db D ∧ IRow (lay4 wx w.heap.size c0 c1 c2 c3) kb K ∧ Bools (lay4 wx w.heap.size c0 c1 c2 c3) hb Ha ∧ Bools (lay4 wx w.heap.size c0 c1 c2 c3) sb Se) ∧ Below w.heap.size w (lay4 wx w.heap.size c0 c1 c2 c3) := by
  have hl := r.low
  exact ⟨⟨(lay4_far (by omega)).trans r.d, (lay4_far (by omega)).trans r.k, (lay4_far (by omega)).trans r.h, (lay4_far (by omega)).trans r.s⟩, lay4_below (h0.trans (h1.mono (by omega))) (Nat.le_refl _)⟩
theorem infoB : (Tryz.prog.info? 4).map (fun i => (i.zero, i.size, i.bytes)) = some (some (.bool false), 1, 1) := by kernel_rfl
theorem lay4_box {W : World} {b : Nat} {c0 c1 c2 c3 x y z u : Value} {T : TypeId} (h : W.heap[b]? = some (.cells #[x, y, z, u] T)) : (lay4 W b c0 c1 c2 c3).heap[b]? = some (.cells #[c0, c1, c2, c3] T) :=
  Go.heap_setCell_same _ b 3 _ T c3 (Go.heap_setCell_same _ b 2 _ T c2 (Go.heap_setCell_same _ b 1 _ T c1 (Go.heap_setCell_same W b 0 _ T c0 h)))
theorem ri_ex5 {W0 w' : World} {n b1 b3 b5 b7 b9 : Nat} {x y z u : Value} (g1 : w'.heap[b1]? = some (.cells (madeCells #[.int .u64 0] n) 66)) (g3 : w'.heap[b3]? = some (.cells (madeCells #[.int .i64 0] n) 3)) (g5 : w'.heap[b5]? = some (.cells (madeCells #[.bool false] n) 4)) (g7 : w'.heap[b7]? = some (.cells (madeCells #[.bool false] n) 4)) (g9 : w'.heap[b9]? = some (.cells #[x, y, z, u] 168))
    (low : W0.heap.size ≤ b9 ∧ W0.heap.size ≤ b1 ∧ W0.heap.size ≤ b3 ∧ W0.heap.size ≤ b5 ∧ W0.heap.size ≤ b7) (ne : b9 ≠ b1 ∧ b9 ≠ b3 ∧ b9 ≠ b5 ∧ b9 ≠ b7 ∧ b1 ≠ b3 ∧ b1 ≠ b5 ∧ b1 ≠ b7 ∧ b3 ≠ b5 ∧ b3 ≠ b7 ∧ b5 ≠ b7) (hb : Below W0.heap.size W0 w') :
    ∃ bx db kb hb sb, (Value.pointer (some ⟨b9, 0, none⟩)) = .pointer (some ⟨bx, 0, none⟩) ∧ RI W0.heap.size n (lay4 w' b9 (.slice (some ⟨b1, 0, none⟩) n n) (.slice (some ⟨b3, 0, none⟩) n n) (.slice (some ⟨b5, 0, none⟩) n n) (.slice (some ⟨b7, 0, none⟩) n n)) bx db kb hb sb (List.replicate n 0) (List.replicate n 0) (List.replicate n false) (List.replicate n false) ∧ Below W0.heap.size W0 (lay4 w' b9 (.slice (some ⟨b1, 0, none⟩) n n) (.slice (some ⟨b3, 0, none⟩) n n) (.slice (some ⟨b5, 0, none⟩) n n) (.slice (some ⟨b7, 0, none⟩) n n)) := by
  obtain ⟨n1, n2, n3, n4, _⟩ := id ne
  exact ⟨b9, b1, b3, b5, b7, rfl, ⟨lay4_box g9, made_u64s' ((lay4_far (Ne.symm n1)).trans g1), made_ints ((lay4_far (Ne.symm n2)).trans g3), made_bools ((lay4_far (Ne.symm n3)).trans g5), made_bools ((lay4_far (Ne.symm n4)).trans g7), low, ne⟩, lay4_below hb low.1⟩
/-- an operation that lays a thing of its own: its place among the operations, itself, what it yields (by the block's number), and what it lays. -/
structure Lay where
  i : Nat
  o : Oper
  val : Nat → Value
  obj : Obj
section
variable {P : Program} {md : Region.Mode} {ops : Array Oper} {Q : Exit → Act → World → Prop} {S : World → Prop}
def LaysR (P : Program) (ops : Array Oper) (r : Lay) (a : Act) : Prop := Region.wanted r.o (yielded ops a.tmps) = true ∧ ∀ wx, (execOp a.eval r.o).run P wx = .ok (.value (r.val wx.heap.size)) (wx.alloc r.obj)
theorem LaysR.put {r : Lay} {oj : Oper} {a : Act} (h : LaysR P ops r a) (hap : oj.apart ops r.o = true) (hs : ∀ cs b, r.o.op ≠ .select cs b) (u : Value) : LaysR P ops r (a.put oj.dst u) := by
  obtain ⟨h1, h2, h3⟩ := Oper.apart_spec hap
  refine ⟨by rw [wanted_put r.o a oj.dst u h1]; exact h.1, fun wx => ?_⟩
  rw [execOp_put r.o hs a oj.dst u h1]
  exact h.2 wx
theorem LaysR.op {r : Lay} {a : Act} {w : World} {K : Act → World → Prop} (ho : ops[r.i]? = some r.o) (h : LaysR P ops r a) (hK : K (a.put r.o.dst (r.val w.heap.size)) (w.alloc r.obj)) : wpOp P ops Q r.i K a w := by
  unfold wpOp
  simp only [ho]
  rw [if_pos h.1]
  refine .inl ?_
  unfold Oper.wp
  rw [h.2 w]
  exact hK
/-- at each time just those that are left may come up. -/
def okR (md : Region.Mode) (ops : Array Oper) : Nat → Array Bool → List Lay → Bool
  | 0, _, R => R.isEmpty
  | m + 1, listed, R => decide (Region.ready md ops listed = R.map Lay.i) && R.all fun r => okR md ops m (listed.setIfInBounds r.i true) (R.eraseP fun q => q.i == r.i)
theorem lays_apart {R : List Lay} (h : (R.all fun r => R.all fun q => r.i == q.i || r.o.apart ops q.o) = true) : ∀ r ∈ R, ∀ q ∈ R, r.i ≠ q.i → r.o.apart ops q.o = true := fun r hr q hq hne => by
  have h1 := List.all_eq_true.1 (List.all_eq_true.1 h r hr) q hq
  rw [Bool.or_eq_true] at h1
  rcases h1 with h1 | h1
  · exact absurd (by simpa using h1) hne
  · exact h1
theorem foldl_members {α β : Type} {f g : β → α → β} : ∀ (l : List α) (b : β), (∀ a ∈ l, ∀ b, f b a = g b a) → l.foldl f b = l.foldl g b
  | [], _, _ => rfl
  | a :: l, b, h => by
    simp only [List.foldl_cons]
    rw [h a (by simp)]
    exact foldl_members l _ fun x hx => h x (by simp [hx])
theorem lay_unique : ∀ (l : List Lay), (l.map Lay.i).Nodup → ∀ q ∈ l, ∀ r ∈ l, q.i = r.i → q = r
  | [], _, q, hq, _, _, _ => by cases hq
  | b :: l, hn, q, hq, r, hr, e => by
    simp only [List.map_cons, List.nodup_cons, List.mem_map] at hn
    rcases List.mem_cons.1 hq with h1 | h1 <;> rcases List.mem_cons.1 hr with h2 | h2
    · rw [h1, h2]
    · exact absurd ⟨r, h2, by rw [← e, h1]⟩ hn.1
    · exact absurd ⟨q, h1, by rw [e, h2]⟩ hn.1
    · exact lay_unique l hn.2 q h1 r h2 e
/-- what follows, once all of a list are laid: their blocks, in whatever order. -/
def Cont (P : Program) (md : Region.Mode) (ops : Array Oper) (Q : Exit → Act → World → Prop) (S : World → Prop) (fuel : Nat) (R : List Lay) (listed : Array Bool) (a : Act) (w : World) : Prop :=
  ∀ (β : Nat → Nat) (w' : World), (∀ r ∈ R, w'.heap[β r.i]? = some r.obj ∧ w.heap.size ≤ β r.i) → (∀ r ∈ R, ∀ q ∈ R, r.i ≠ q.i → β r.i ≠ β q.i) → Below w.heap.size w w' → wpAnyH P md ops Q S fuel (R.foldl (fun l r => l.setIfInBounds r.i true) listed) (R.foldl (fun a r => a.put r.o.dst (r.val (β r.i))) a) w'
theorem Cont.step {fuel : Nat} {R R' : List Lay} {r : Lay} {listed : Array Bool} {a : Act} {w : World} (h : Cont P md ops Q S fuel R listed a w) (hperm : R.Perm (r :: R')) (hnd : (R.map Lay.i).Nodup) (hap : ∀ r ∈ R, ∀ q ∈ R, r.i ≠ q.i → r.o.apart ops q.o = true) :
    Cont P md ops Q S fuel R' (listed.setIfInBounds r.i true) (a.put r.o.dst (r.val w.heap.size)) (w.alloc r.obj) := by
  have hin : ∀ q ∈ r :: R', q ∈ R := fun q hq => hperm.mem_iff.2 hq
  have huniq : ∀ q ∈ R, q.i = r.i → q = r := fun q hq e => lay_unique R hnd q hq r (hin r (by simp)) e
  have hne : ∀ q ∈ R', q.i ≠ r.i := fun q hq e => by
    have h1 := (hperm.map Lay.i).nodup hnd
    simp only [List.map_cons, List.nodup_cons, List.mem_map] at h1
    exact h1.1 ⟨q, hq, e⟩
  have hout : ∀ q ∈ R, q.i ≠ r.i → q ∈ R' := fun q hq e => by
    rcases List.mem_cons.1 (hperm.mem_iff.1 hq) with h | h
    · exact absurd (by rw [h]) e
    · exact h
  have hal : Below w.heap.size w (w.alloc r.obj) := (Below.refl _ w).alloc (Nat.le_refl _) _
  have hsz : (w.alloc r.obj).heap.size = w.heap.size + 1 := by simp
  intro β w' hβ hβn hb
  have hb2 : Below w.heap.size w w' := hal.trans (hb.mono hal.size)
  have h1 := h (fun i => if i = r.i then w.heap.size else β i) w' (fun q hq => by
    by_cases e : q.i = r.i
    · rw [if_pos e]
      rw [huniq q hq e]
      exact ⟨(hb.block _ (by omega)).trans (heap_new _ _), Nat.le_refl _⟩
    · rw [if_neg e]
      have := hβ q (hout q hq e)
      exact ⟨this.1, by omega⟩) (fun q hq q' hq' hne' => by
    by_cases e : q.i = r.i <;> by_cases e' : q'.i = r.i
    · exact absurd (e.trans e'.symm) hne'
    · simp only [if_pos e, if_neg e']
      have := (hβ q' (hout q' hq' e')).2
      omega
    · simp only [if_neg e, if_pos e']
      have := (hβ q (hout q hq e)).2
      omega
    · simp only [if_neg e, if_neg e']
      exact hβn q (hout q hq e) q' (hout q' hq' e') hne') hb2
  rw [hperm.foldl_eq' (f := fun (l : Array Bool) (r : Lay) => l.setIfInBounds r.i true) (fun x _ y _ z => by
    by_cases e : x.i = y.i
    · rw [e]
    · exact (Array.setIfInBounds_comm _ _ e).symm ▸ rfl) listed] at h1
  rw [hperm.foldl_eq' (f := fun (a : Act) (q : Lay) => a.put q.o.dst (q.val (if q.i = r.i then w.heap.size else β q.i))) (fun x hx' y hy' z => by
    by_cases e : x.i = y.i
    · have : x = y := lay_unique R hnd x (by first | exact hx' | exact hin x hx') y (by first | exact hy' | exact hin y hy') e
      rw [this]
    · exact (Act.put_comm z _ _ (Oper.apart_spec (hap y (by first | exact hy' | exact hin y hy') x (by first | exact hx' | exact hin x hx') (Ne.symm e))).2.1).symm ▸ rfl) a] at h1
  simp only [List.foldl_cons, if_true] at h1
  rw [foldl_members (f := fun (a : Act) (q : Lay) => a.put q.o.dst (q.val (if q.i = r.i then w.heap.size else β q.i))) (g := fun (a : Act) (r : Lay) => a.put r.o.dst (r.val (β r.i))) R' _ (fun q hq b => by rw [if_neg (hne q hq)])] at h1
  exact h1
/-- one of a list is taken out. -/
theorem lay_out {R : List Lay} (hnd : (R.map Lay.i).Nodup) {r : Lay} (hr : r ∈ R) : ∃ R', R.eraseP (fun q => q.i == r.i) = R' ∧ R.Perm (r :: R') ∧ (R'.map Lay.i).Nodup ∧ (∀ q ∈ R', q ∈ R ∧ q.i ≠ r.i) := by
  obtain ⟨r2, l1, l2, _, hp, hR, hE⟩ := List.exists_of_eraseP (p := fun q : Lay => q.i == r.i) hr (by simp)
  have hr2 : r2 = r := lay_unique R hnd r2 (by rw [hR]; simp) r hr (by simpa using hp)
  subst hr2
  have hperm : R.Perm (r2 :: (l1 ++ l2)) := by rw [hR]; exact List.perm_middle
  have h1 := (hperm.map Lay.i).nodup hnd
  simp only [List.map_cons, List.nodup_cons, List.mem_map] at h1
  exact ⟨l1 ++ l2, hE, hperm, h1.2, fun q hq => ⟨hperm.mem_iff.2 (List.mem_cons_of_mem _ hq), fun e => h1.1 ⟨q, hq, e⟩⟩⟩
theorem wpAnyH_lays : ∀ (m : Nat) (R : List Lay) (listed : Array Bool) (a : Act) (w : World) (fuel : Nat), R.length = m → okR md ops m listed R = true → (∀ r ∈ R, ops[r.i]? = some r.o) → (R.map Lay.i).Nodup → (∀ r ∈ R, ∀ q ∈ R, r.i ≠ q.i → r.o.apart ops q.o = true) → (∀ r ∈ R, ∀ cs b, r.o.op ≠ .select cs b) → (∀ r ∈ R, LaysR P ops r a) → (∀ wx, Below w.heap.size w wx → S wx) →
    Cont P md ops Q S fuel R listed a w → wpAnyH P md ops Q S (fuel + m) listed a w
  | 0, R, listed, a, w, fuel, hm, _, _, _, _, _, _, _, h => by
    have : R = [] := List.eq_nil_of_length_eq_zero hm
    subst this
    exact h (fun _ => 0) w (fun r hr => by cases hr) (fun r hr => by cases hr) (Below.refl _ _)
  | m + 1, R, listed, a, w, fuel, hm, hok, hi, hnd, hap, hsel, hL, hS, h => by
    simp only [okR, Bool.and_eq_true, decide_eq_true_eq, List.all_eq_true] at hok
    refine wpAnyH_all hok.1 (fun e => by have : (R.map Lay.i).length = 0 := by rw [e]; rfl
                                         rw [List.length_map] at this; omega) fun x hx => ?_
    obtain ⟨r, hr, rfl⟩ := List.mem_map.1 hx
    obtain ⟨R', hE, hperm, hnd2, hin⟩ := lay_out hnd hr
    have hlen : R'.length = m := by
      have := hperm.length_eq
      rw [hm, List.length_cons] at this
      omega
    have hal : Below w.heap.size w (w.alloc r.obj) := (Below.refl _ w).alloc (Nat.le_refl _) _
    refine (hL r hr).op (hi r hr) ⟨hS _ hal, ?_⟩
    exact wpAnyH_lays m R' _ _ _ fuel hlen (by rw [← hE]; exact hok.2 r hr) (fun q hq => hi q (hin q hq).1) hnd2 (fun q hq q' hq' => hap q (hin q hq).1 q' (hin q' hq').1) (fun q hq => hsel q (hin q hq).1) (fun q hq => (hL q (hin q hq).1).put (hap r hr q (hin q hq).1 (Ne.symm (hin q hq).2)) (hsel q (hin q hq).1) _) (fun wx hx => hS wx (hal.trans (hx.mono hal.size))) (h.step hperm hnd hap)
/-- the same, where one more may come up between them, or after. -/
def okE (md : Region.Mode) (ops : Array Oper) (e : Lay) : Nat → Array Bool → List Lay → Bool
  | 0, _, M => M.isEmpty
  | m + 1, listed, M => decide (Region.ready md ops listed = M.map Lay.i ++ [e.i]) && (okR md ops (m + 1) (listed.setIfInBounds e.i true) M && M.all fun r => okE md ops e m (listed.setIfInBounds r.i true) (M.eraseP fun q => q.i == r.i))
theorem wpAnyH_layse (e : Lay) : ∀ (m : Nat) (M : List Lay) (listed : Array Bool) (a : Act) (w : World) (fuel : Nat), M.length = m → okE md ops e m listed M = true → (∀ r ∈ e :: M, ops[r.i]? = some r.o) → ((e :: M).map Lay.i).Nodup → (∀ r ∈ e :: M, ∀ q ∈ e :: M, r.i ≠ q.i → r.o.apart ops q.o = true) → (∀ r ∈ e :: M, ∀ cs b, r.o.op ≠ .select cs b) → (∀ r ∈ e :: M, LaysR P ops r a) → (∀ wx, Below w.heap.size w wx → S wx) →
    Cont P md ops Q S fuel (e :: M) listed a w → Cont P md ops Q S (fuel + 1) M listed a w → wpAnyH P md ops Q S (fuel + 1 + m) listed a w
  | 0, M, listed, a, w, fuel, hm, _, _, _, _, _, _, _, _, h => by
    have : M = [] := List.eq_nil_of_length_eq_zero hm
    subst this
    exact h (fun _ => 0) w (fun r hr => by cases hr) (fun r hr => by cases hr) (Below.refl _ _)
  | m + 1, M, listed, a, w, fuel, hm, hok, hi, hnd, hap, hsel, hL, hS, hA, hB => by
    simp only [okE, Bool.and_eq_true, decide_eq_true_eq, List.all_eq_true] at hok
    have hndM : (M.map Lay.i).Nodup := by
      simp only [List.map_cons, List.nodup_cons] at hnd
      exact hnd.2
    have heM : ∀ q ∈ M, q.i ≠ e.i := fun q hq h => by
      simp only [List.map_cons, List.nodup_cons, List.mem_map] at hnd
      exact hnd.1 ⟨q, hq, h⟩
    have he : e ∈ e :: M := by simp
    refine wpAnyH_all hok.1 (by simp) fun x hx => ?_
    rcases List.mem_append.1 hx with hx | hx
    · obtain ⟨r, hr, rfl⟩ := List.mem_map.1 hx
      have hrE : r ∈ e :: M := List.mem_cons_of_mem _ hr
      obtain ⟨M', hE, hperm, hnd2, hin⟩ := lay_out hndM hr
      have hlen : M'.length = m := by
        have := hperm.length_eq
        rw [hm, List.length_cons] at this
        omega
      have hal : Below w.heap.size w (w.alloc r.obj) := (Below.refl _ w).alloc (Nat.le_refl _) _
      have hpE : (e :: M).Perm (r :: (e :: M')) := (hperm.cons e).trans (List.Perm.swap r e M')
      have hinE : ∀ q ∈ e :: M', q ∈ e :: M ∧ q.i ≠ r.i := fun q hq => by
        rcases List.mem_cons.1 hq with h | h
        · rw [h]
          exact ⟨he, Ne.symm (heM r hr)⟩
        · exact ⟨List.mem_cons_of_mem _ (hin q h).1, (hin q h).2⟩
      have hndE : ((e :: M').map Lay.i).Nodup := by
        have h1 := (hpE.map Lay.i).nodup hnd
        simp only [List.map_cons] at h1
        exact (List.nodup_cons.1 h1).2
      refine (hL r hrE).op (hi r hrE) ⟨hS _ hal, ?_⟩
      exact wpAnyH_layse e m M' _ _ _ fuel hlen (by rw [← hE]; exact hok.2.2 r hr) (fun q hq => hi q (hinE q hq).1) hndE (fun q hq q' hq' => hap q (hinE q hq).1 q' (hinE q' hq').1) (fun q hq => hsel q (hinE q hq).1) (fun q hq => (hL q (hinE q hq).1).put (hap r hrE q (hinE q hq).1 (Ne.symm (hinE q hq).2)) (hsel q (hinE q hq).1) _) (fun wx hx => hS wx (hal.trans (hx.mono hal.size))) (hA.step hpE hnd hap) (hB.step hperm hndM fun q hq q' hq' => hap q (List.mem_cons_of_mem _ hq) q' (List.mem_cons_of_mem _ hq'))
    · obtain rfl : x = e.i := by simpa using hx
      have hal : Below w.heap.size w (w.alloc e.obj) := (Below.refl _ w).alloc (Nat.le_refl _) _
      refine (hL e he).op (hi e he) ⟨hS _ hal, ?_⟩
      show wpAnyH P md ops Q S (fuel + 1 + m) _ _ _
      rw [show fuel + 1 + m = fuel + (m + 1) by omega]
      exact wpAnyH_lays (m + 1) M _ _ _ fuel hm hok.2.1 (fun q hq => hi q (List.mem_cons_of_mem _ hq)) hndM (fun q hq q' hq' => hap q (List.mem_cons_of_mem _ hq) q' (List.mem_cons_of_mem _ hq')) (fun q hq => hsel q (List.mem_cons_of_mem _ hq)) (fun q hq => (hL q (List.mem_cons_of_mem _ hq)).put (hap e he q (List.mem_cons_of_mem _ hq) (Ne.symm (heM q hq))) (hsel q (List.mem_cons_of_mem _ hq)) _) (fun wx hx => hS wx (hal.trans (hx.mono hal.size))) (hA.step (List.Perm.refl _) hnd hap)
end
/-- what Run answers. -/
def RunAns (n : Nat) (zs : List (Int × Int × Int)) (hops se mo : Int) (s : Nat) (S0 : FS) (w : World) (e : Ending) (w' : World) : Prop := ∃ db kb hb sb D K Ha Se t S, e = .returned (.agg #[.slice (some ⟨db, 0, none⟩) n n, .slice (some ⟨kb, 0, none⟩) n n, .slice (some ⟨hb, 0, none⟩) n n, .slice (some ⟨sb, 0, none⟩) n n]) ∧ (Steps n zs hops mo (S0.begin n s) t S ∧ RunEnd n se mo t S ∧ RR n S D K Ha Se) ∧ (U64s w' db D ∧ IRow w' kb K ∧ Bools w' hb Ha ∧ Bools w' sb Se) ∧ Below w.heap.size w w'
set_option maxRecDepth 100000 in
set_option maxHeartbeats 8000000 in
theorem rRun_calls (n : Nat) (zs : List (Int × Int × Int)) (rb rc s : Nat) (hops se mo : Int) (w : World) (hz : Fine n zs) (hs : s < n) (hR : RowsIn w rb n zs) (S0 : FS) :
    Calls Tryz.prog 86 #[.slice (some ⟨rb, 0, none⟩) n rc, .int .i64 s, .int .i64 hops, .int .i64 se, .int .u64 mo] w fun e w' => RunAns n zs hops se mo s S0 w e w' := by
  have hn := hz.few
  obtain ⟨W0, hW0⟩ : ∃ W0, w.alloc (.cells #[.slice none 0 0, .slice none 0 0, .slice none 0 0, .slice none 0 0] 168) = W0 := ⟨_, rfl⟩
  have HW0 : Hid (w.alloc (.cells #[.slice none 0 0, .slice none 0 0, .slice none 0 0, .slice none 0 0] 168) = W0) := hW0
  have hB0 : Below w.heap.size w W0 := by rw [← hW0]; exact (Below.refl _ w).alloc (Nat.le_refl _) _
  have HRB : Hid (W0.heap[w.heap.size]? = some (.cells #[.slice none 0 0, .slice none 0 0, .slice none 0 0, .slice none 0 0] 168)) := by rw [← hW0]; exact heap_new _ _
  have HB0 : Hid (Below w.heap.size w W0) := hB0
  have HS0 : Hid (w.heap.size + 1 = W0.heap.size) := by show _ = _; rw [← hW0]; simp
  have HRW : Hid (RowsIn w rb n zs) := hR
  have HZ : Hid (Fine n zs) := hz
  have HI0 : Hid (SInv n zs hops s 0 (S0.begin n s)) := start_inv hs _ rfl rfl
  have HBG : Hid (RR n (S0.begin n s) (List.replicate n 0) (List.replicate n 0) ((List.replicate n false).set s true) (List.replicate n false)) := RR.begin hs S0
  have hmk1 := fun wx => run_make_row' (P := Tryz.prog) 130 66 (.int .u64 0) 8 Tryz.underlying130 infoU rfl .i64 .i64 n (by omega) (by omega) wx
  have hmk2 := fun wx => run_make_row' (P := Tryz.prog) 56 3 (.int .i64 0) 8 Tryz.underlying56 infoJ rfl .i64 .i64 n (by omega) (by omega) wx
  have hmk3 := fun wx => run_make_row' (P := Tryz.prog) 30 4 (.bool false) 1 Tryz.underlying30 infoB rfl .i64 .i64 n (by omega) (by omega) wx
  clear hz hR hW0 hB0
  go_enter Tryz.func86, Tryz.ntmps86
  go_upto_region 2 with fail
  rw [HW0.out]
  go_cut [12] (fun c wx => ∃ bx db kb hb sb, c = .pointer (some ⟨bx, 0, none⟩) ∧ RI W0.heap.size n wx bx db kb hb sb (List.replicate n 0) (List.replicate n 0) (List.replicate n false) (List.replicate n false) ∧ Below W0.heap.size W0 wx)
  case first =>
    refine wp_region_held_drew (S := fun _ => True) (by kernel_rfl) trivial (fun _ => ?_)
    refine wpAnyH_take (i := 0) (oi := { dst := some 20, op := Op.move (Operand.tmp 11), type := 3, pos := "ref.go:84", after := #[], guard := none }) (v := ?v0) rfl (by kernel_rfl) (by kernel_rfl) (by kernel_rfl) (fun _ _ _ h => h) (Or.inl ⟨by rfl, ?h0⟩) trivial ?r0
    case h0 => ((intro wz hSw; go_simp); try (with_reducible rfl))
    simp only [Act.put, List.setIfInBounds_toArray, List.set_cons_zero, List.set_cons_succ]
    refine wpAnyH_take (i := 2) (oi := { dst := some 22, op := Op.move (Operand.tmp 11), type := 3, pos := "ref.go:84", after := #[], guard := none }) (v := ?v2) rfl (by kernel_rfl) (by kernel_rfl) (by kernel_rfl) (fun _ _ _ h => h) (Or.inl ⟨by rfl, ?h2⟩) trivial ?r2
    case h2 => ((intro wz hSw; go_simp); try (with_reducible rfl))
    simp only [Act.put, List.setIfInBounds_toArray, List.set_cons_zero, List.set_cons_succ]
    refine wpAnyH_take (i := 4) (oi := { dst := some 24, op := Op.move (Operand.tmp 11), type := 3, pos := "ref.go:84", after := #[], guard := none }) (v := ?v4) rfl (by kernel_rfl) (by kernel_rfl) (by kernel_rfl) (fun _ _ _ h => h) (Or.inl ⟨by rfl, ?h4⟩) trivial ?r4
    case h4 => ((intro wz hSw; go_simp); try (with_reducible rfl))
    simp only [Act.put, List.setIfInBounds_toArray, List.set_cons_zero, List.set_cons_succ]
    refine wpAnyH_take (i := 6) (oi := { dst := some 26, op := Op.move (Operand.tmp 11), type := 3, pos := "ref.go:84", after := #[], guard := none }) (v := ?v6) rfl (by kernel_rfl) (by kernel_rfl) (by kernel_rfl) (fun _ _ _ h => h) (Or.inl ⟨by rfl, ?h6⟩) trivial ?r6
    case h6 => ((intro wz hSw; go_simp); try (with_reducible rfl))
    simp only [Act.put, List.setIfInBounds_toArray, List.set_cons_zero, List.set_cons_succ]
    refine wpAnyH_layse ⟨9, { dst := some 12, op := Op.alloc 168, type := 0, pos := "ref.go:84", after := #[], guard := none }, fun b => .pointer (some ⟨b, 0, none⟩), .cells #[.slice none 0 0, .slice none 0 0, .slice none 0 0, .slice none 0 0] 168⟩ 4 [⟨1, { dst := some 21, op := Op.makeSlice 130 (Operand.tmp 20) (Operand.tmp 20), type := 130, pos := "ref.go:84", after := #[{ on := 0, ground := Ground.data }, { on := 0, ground := Ground.data }], guard := none }, fun b => .slice (some ⟨b, 0, none⟩) n n, .cells (madeCells #[.int .u64 0] n) 66⟩, ⟨3, { dst := some 23, op := Op.makeSlice 56 (Operand.tmp 22) (Operand.tmp 22), type := 56, pos := "ref.go:84", after := #[{ on := 2, ground := Ground.data }, { on := 2, ground := Ground.data }], guard := none }, fun b => .slice (some ⟨b, 0, none⟩) n n, .cells (madeCells #[.int .i64 0] n) 3⟩, ⟨5, { dst := some 25, op := Op.makeSlice 30 (Operand.tmp 24) (Operand.tmp 24), type := 30, pos := "ref.go:84", after := #[{ on := 4, ground := Ground.data }, { on := 4, ground := Ground.data }], guard := none }, fun b => .slice (some ⟨b, 0, none⟩) n n, .cells (madeCells #[.bool false] n) 4⟩, ⟨7, { dst := some 27, op := Op.makeSlice 30 (Operand.tmp 26) (Operand.tmp 26), type := 30, pos := "ref.go:84", after := #[{ on := 6, ground := Ground.data }, { on := 6, ground := Ground.data }], guard := none }, fun b => .slice (some ⟨b, 0, none⟩) n n, .cells (madeCells #[.bool false] n) 4⟩] _ _ _ 2 rfl (by kernel_rfl) ?hi ?hnd (lays_apart (by kernel_rfl)) ?hsel ?hL (fun _ _ => trivial) ?hA ?hB
    case hi =>
      intro r hr
      simp only [List.mem_cons, List.not_mem_nil, or_false] at hr
      rcases hr with rfl | rfl | rfl | rfl | rfl <;> rfl
    case hnd => simp
    case hsel =>
      intro r hr cs b h
      simp only [List.mem_cons, List.not_mem_nil, or_false] at hr
      rcases hr with rfl | rfl | rfl | rfl | rfl <;> cases h
    case hL =>
      intro r hr
      simp only [List.mem_cons, List.not_mem_nil, or_false] at hr
      rcases hr with rfl | rfl | rfl | rfl | rfl
      all_goals exact ⟨by rfl, fun wz => by go_simp⟩
    case hA =>
      intro β w' hβ hβn hbl
      have g9 := hβ _ List.mem_cons_self
      have g1 := hβ _ (List.mem_cons_of_mem _ List.mem_cons_self)
      have g3 := hβ _ (List.mem_cons_of_mem _ (List.mem_cons_of_mem _ List.mem_cons_self))
      have g5 := hβ _ (List.mem_cons_of_mem _ (List.mem_cons_of_mem _ (List.mem_cons_of_mem _ List.mem_cons_self)))
      have g7 := hβ _ (List.mem_cons_of_mem _ (List.mem_cons_of_mem _ (List.mem_cons_of_mem _ (List.mem_cons_of_mem _ List.mem_cons_self))))
      have n91 := hβn _ List.mem_cons_self _ (List.mem_cons_of_mem _ List.mem_cons_self) (show (9 : Nat) ≠ 1 by decide)
      have n93 := hβn _ List.mem_cons_self _ (List.mem_cons_of_mem _ (List.mem_cons_of_mem _ List.mem_cons_self)) (show (9 : Nat) ≠ 3 by decide)
      have n95 := hβn _ List.mem_cons_self _ (List.mem_cons_of_mem _ (List.mem_cons_of_mem _ (List.mem_cons_of_mem _ List.mem_cons_self))) (show (9 : Nat) ≠ 5 by decide)
      have n97 := hβn _ List.mem_cons_self _ (List.mem_cons_of_mem _ (List.mem_cons_of_mem _ (List.mem_cons_of_mem _ (List.mem_cons_of_mem _ List.mem_cons_self)))) (show (9 : Nat) ≠ 7 by decide)
      have n13 := hβn _ (List.mem_cons_of_mem _ List.mem_cons_self) _ (List.mem_cons_of_mem _ (List.mem_cons_of_mem _ List.mem_cons_self)) (show (1 : Nat) ≠ 3 by decide)
      have n15 := hβn _ (List.mem_cons_of_mem _ List.mem_cons_self) _ (List.mem_cons_of_mem _ (List.mem_cons_of_mem _ (List.mem_cons_of_mem _ List.mem_cons_self))) (show (1 : Nat) ≠ 5 by decide)
      have n17 := hβn _ (List.mem_cons_of_mem _ List.mem_cons_self) _ (List.mem_cons_of_mem _ (List.mem_cons_of_mem _ (List.mem_cons_of_mem _ (List.mem_cons_of_mem _ List.mem_cons_self)))) (show (1 : Nat) ≠ 7 by decide)
      have n35 := hβn _ (List.mem_cons_of_mem _ (List.mem_cons_of_mem _ List.mem_cons_self)) _ (List.mem_cons_of_mem _ (List.mem_cons_of_mem _ (List.mem_cons_of_mem _ List.mem_cons_self))) (show (3 : Nat) ≠ 5 by decide)
      have n37 := hβn _ (List.mem_cons_of_mem _ (List.mem_cons_of_mem _ List.mem_cons_self)) _ (List.mem_cons_of_mem _ (List.mem_cons_of_mem _ (List.mem_cons_of_mem _ (List.mem_cons_of_mem _ List.mem_cons_self)))) (show (3 : Nat) ≠ 7 by decide)
      have n57 := hβn _ (List.mem_cons_of_mem _ (List.mem_cons_of_mem _ (List.mem_cons_of_mem _ List.mem_cons_self))) _ (List.mem_cons_of_mem _ (List.mem_cons_of_mem _ (List.mem_cons_of_mem _ (List.mem_cons_of_mem _ List.mem_cons_self)))) (show (5 : Nat) ≠ 7 by decide)
      simp only at g1 g3 g5 g7 g9 n91 n93 n95 n97 n13 n15 n17 n35 n37 n57
      clear hβ hβn
      simp only [List.foldl_cons, List.foldl_nil]
      simp only [Act.put, List.setIfInBounds_toArray, List.set_cons_zero, List.set_cons_succ]
      generalize β 1 = b1 at *
      generalize β 3 = b3 at *
      generalize β 5 = b5 at *
      generalize β 7 = b7 at *
      generalize β 9 = b9 at *
      refine wpAnyH_take (i := 8) (oi := { dst := some 28, op := Op.build 168 #[(0, Operand.tmp 21), (1, Operand.tmp 23), (2, Operand.tmp 25), (3, Operand.tmp 27)], type := 168, pos := "ref.go:84", after := #[{ on := 1, ground := Ground.data }, { on := 3, ground := Ground.data }, { on := 5, ground := Ground.data }, { on := 7, ground := Ground.data }], guard := none }) (v := ?v8) rfl (by kernel_rfl) (by kernel_rfl) (by kernel_rfl) (fun _ _ _ h => h) (Or.inl ⟨by rfl, ?h8⟩) trivial ?r8
      case h8 => ((intro wz hSw; go_simp); try (with_reducible rfl))
      simp only [Act.put, List.setIfInBounds_toArray, List.set_cons_zero, List.set_cons_succ]
      obtain ⟨z0, z1, z2, z3, y0, y1, y2, y3, zl⟩ := zero4 g9.1
      refine wpAnyH_ready (rs := [10]) (by kernel_rfl) (by simp) ?_
      refine AllReadyH.cons (o := { dst := none, op := Op.store 168 (Operand.tmp 12) (Operand.tmp 28), type := 0, pos := "ref.go:84", after := #[{ on := 9, ground := Ground.data }, { on := 8, ground := Ground.data }, { on := 0, ground := Ground.phase }, { on := 1, ground := Ground.phase }, { on := 2, ground := Ground.phase }, { on := 3, ground := Ground.phase }, { on := 4, ground := Ground.phase }, { on := 5, ground := Ground.phase }, { on := 6, ground := Ground.phase }, { on := 7, ground := Ground.phase }, { on := 8, ground := Ground.phase }, { on := 9, ground := Ground.phase }], guard := none }) rfl (fun K hK => ?_) AllReadyH.nil
      go_simp
      refine hK.out _ _ trivial (fun _ => ?_)
      clear hK K
      refine wpAnyH_done (by kernel_rfl) ?_ _
      have HR : Hid (type_of% (ri_ex5 (W0 := W0) g1.1 g3.1 g5.1 g7.1 g9.1 ⟨g9.2, g1.2, g3.2, g5.2, g7.2⟩ ⟨n91, n93, n95, n97, n13, n15, n17, n35, n37, n57⟩ ((Below.refl _ W0).drew.trans hbl))) := ri_ex5 (W0 := W0) g1.1 g3.1 g5.1 g7.1 g9.1 ⟨g9.2, g1.2, g3.2, g5.2, g7.2⟩ ⟨n91, n93, n95, n97, n13, n15, n17, n35, n37, n57⟩ ((Below.refl _ W0).drew.trans hbl)
      clear g1 g3 g5 g7 g9 hbl
      go_wp2_with fail
      go_meet
      exact HR.out
    case hB =>
      intro β w' hβ hβn hbl
      have g1 := hβ _ List.mem_cons_self
      have g3 := hβ _ (List.mem_cons_of_mem _ List.mem_cons_self)
      have g5 := hβ _ (List.mem_cons_of_mem _ (List.mem_cons_of_mem _ List.mem_cons_self))
      have g7 := hβ _ (List.mem_cons_of_mem _ (List.mem_cons_of_mem _ (List.mem_cons_of_mem _ List.mem_cons_self)))
      have n13 := hβn _ List.mem_cons_self _ (List.mem_cons_of_mem _ List.mem_cons_self) (show (1 : Nat) ≠ 3 by decide)
      have n15 := hβn _ List.mem_cons_self _ (List.mem_cons_of_mem _ (List.mem_cons_of_mem _ List.mem_cons_self)) (show (1 : Nat) ≠ 5 by decide)
      have n17 := hβn _ List.mem_cons_self _ (List.mem_cons_of_mem _ (List.mem_cons_of_mem _ (List.mem_cons_of_mem _ List.mem_cons_self))) (show (1 : Nat) ≠ 7 by decide)
      have n35 := hβn _ (List.mem_cons_of_mem _ List.mem_cons_self) _ (List.mem_cons_of_mem _ (List.mem_cons_of_mem _ List.mem_cons_self)) (show (3 : Nat) ≠ 5 by decide)
      have n37 := hβn _ (List.mem_cons_of_mem _ List.mem_cons_self) _ (List.mem_cons_of_mem _ (List.mem_cons_of_mem _ (List.mem_cons_of_mem _ List.mem_cons_self))) (show (3 : Nat) ≠ 7 by decide)
      have n57 := hβn _ (List.mem_cons_of_mem _ (List.mem_cons_of_mem _ List.mem_cons_self)) _ (List.mem_cons_of_mem _ (List.mem_cons_of_mem _ (List.mem_cons_of_mem _ List.mem_cons_self))) (show (5 : Nat) ≠ 7 by decide)
      simp only at g1 g3 g5 g7 n13 n15 n17 n35 n37 n57
      clear hβ hβn
      simp only [List.foldl_cons, List.foldl_nil]
      simp only [Act.put, List.setIfInBounds_toArray, List.set_cons_zero, List.set_cons_succ]
      generalize β 1 = b1 at *
      generalize β 3 = b3 at *
      generalize β 5 = b5 at *
      generalize β 7 = b7 at *
      refine wpAnyH_take (i := 8) (oi := { dst := some 28, op := Op.build 168 #[(0, Operand.tmp 21), (1, Operand.tmp 23), (2, Operand.tmp 25), (3, Operand.tmp 27)], type := 168, pos := "ref.go:84", after := #[{ on := 1, ground := Ground.data }, { on := 3, ground := Ground.data }, { on := 5, ground := Ground.data }, { on := 7, ground := Ground.data }], guard := none }) (v := ?v8b) rfl (by kernel_rfl) (by kernel_rfl) (by kernel_rfl) (fun _ _ _ h => h) (Or.inl ⟨by rfl, ?h8b⟩) trivial ?r8b
      case h8b => ((intro wz hSw; go_simp); try (with_reducible rfl))
      simp only [Act.put, List.setIfInBounds_toArray, List.set_cons_zero, List.set_cons_succ]
      refine wpAnyH_ready (rs := [9]) (by kernel_rfl) (by simp) ?_
      refine AllReadyH.cons (o := { dst := some 12, op := Op.alloc 168, type := 0, pos := "ref.go:84", after := #[], guard := none }) rfl (fun K hK => ?_) AllReadyH.nil
      go_simp
      refine hK.out _ _ trivial (fun _ => ?_)
      clear hK K
      have hal : Below w'.heap.size w' (w'.alloc (.cells #[.slice none 0 0, .slice none 0 0, .slice none 0 0, .slice none 0 0] 168)) := (Below.refl _ w').alloc (Nat.le_refl _) _
      have l1 := lt_of_get g1.1
      have l3 := lt_of_get g3.1
      have l5 := lt_of_get g5.1
      have l7 := lt_of_get g7.1
      have g9 := heap_new w' (.cells #[.slice none 0 0, .slice none 0 0, .slice none 0 0, .slice none 0 0] 168)
      have HR : Hid (type_of% (ri_ex5 (W0 := W0) ((hal.block _ l1).trans g1.1) ((hal.block _ l3).trans g3.1) ((hal.block _ l5).trans g5.1) ((hal.block _ l7).trans g7.1) g9 ⟨hbl.size, g1.2, g3.2, g5.2, g7.2⟩ ⟨by omega, by omega, by omega, by omega, n13, n15, n17, n35, n37, n57⟩ (btr ((Below.refl _ W0).drew.trans hbl) hal))) := ri_ex5 (W0 := W0) ((hal.block _ l1).trans g1.1) ((hal.block _ l3).trans g3.1) ((hal.block _ l5).trans g5.1) ((hal.block _ l7).trans g7.1) g9 ⟨hbl.size, g1.2, g3.2, g5.2, g7.2⟩ ⟨by omega, by omega, by omega, by omega, n13, n15, n17, n35, n37, n57⟩ (btr ((Below.refl _ W0).drew.trans hbl) hal)
      clear g1 g3 g5 g7 hbl hal l1 l3 l5 l7 n13 n15 n17 n35 n37 n57
      generalize w'.alloc (.cells #[.slice none 0 0, .slice none 0 0, .slice none 0 0, .slice none 0 0] 168) = W9 at *
      generalize w'.heap.size = b9 at *
      obtain ⟨z0, z1, z2, z3, y0, y1, y2, y3, zl⟩ := zero4 g9
      refine wpAnyH_ready (rs := [10]) (by kernel_rfl) (by simp) ?_
      refine AllReadyH.cons (o := { dst := none, op := Op.store 168 (Operand.tmp 12) (Operand.tmp 28), type := 0, pos := "ref.go:84", after := #[{ on := 9, ground := Ground.data }, { on := 8, ground := Ground.data }, { on := 0, ground := Ground.phase }, { on := 1, ground := Ground.phase }, { on := 2, ground := Ground.phase }, { on := 3, ground := Ground.phase }, { on := 4, ground := Ground.phase }, { on := 5, ground := Ground.phase }, { on := 6, ground := Ground.phase }, { on := 7, ground := Ground.phase }, { on := 8, ground := Ground.phase }, { on := 9, ground := Ground.phase }], guard := none }) rfl (fun K hK => ?_) AllReadyH.nil
      go_simp
      refine hK.out _ _ trivial (fun _ => ?_)
      clear hK K
      refine wpAnyH_done (by kernel_rfl) ?_ _
      go_wp2_with fail
      go_meet
      exact HR.out
  case rest =>
    obtain ⟨bx, db, kb, hb, sb, rfl, hRI, hbw⟩ := hcut
    have H1 : Hid (RI W0.heap.size n (wc.setCell ⟨hb, s, none⟩ (.bool true)) bx db kb hb sb (List.replicate n 0) (List.replicate n 0) ((List.replicate n false).set s true) (List.replicate n false) ∧ Below W0.heap.size W0 (wc.setCell ⟨hb, s, none⟩ (.bool true))) := ⟨hRI.setH s true, hbw.setCell (p := ⟨hb, s, none⟩) hRI.low.2.2.2.1 _⟩
    obtain ⟨c0, c1, c2, c3⟩ := box4 hRI.box
    have cs := lt_of_get hRI.box
    obtain ⟨q0, ql, qf⟩ := hRI.h.at (k := s) (x := false) (by simp [hs])
    have i1 : (s : Int) < (n : Int) := by omega
    have i2 : (0 : Int) ≤ (s : Int) := by omega
    clear hmk1 hmk2 hmk3 hRI hbw
    go_wp2_with fail
    clear c0 c1 c2 c3 cs q0 ql qf i1 i2
    generalize wc.setCell ⟨hb, s, none⟩ (.bool true) = w2 at *
    go_loopw [13] (fun iv wr => ∃ t : Nat, (iv = .int .i64 t ∧ (t = 0 ∨ (t : Int) ≤ se)) ∧ ∃ D K Ha Se S, RI W0.heap.size n wr bx db kb hb sb D K Ha Se ∧ Below W0.heap.size W0 wr ∧ Steps n zs hops mo (S0.begin n s) t S ∧ RR n S D K Ha Se) (fun iv _ => n + 1 - (intOf iv).toNat)
    case atStart => exact ⟨0, ⟨rfl, Or.inl rfl⟩, _, _, _, _, _, H1.out.1, H1.out.2, rfl, HBG.out⟩
    case round =>
      obtain ⟨t, ⟨rfl, htb⟩, D, K, Ha, Se, S, hRI, hbw, hSt, hRR⟩ := hrel
      have HTB : Hid (t = 0 ∨ (t : Int) ≤ se) := htb
      have G1 : Hid (RI W0.heap.size n wr bx db kb hb sb D K Ha Se ∧ Below W0.heap.size W0 wr ∧ Steps n zs hops mo (S0.begin n s) t S ∧ RR n S D K Ha Se) := ⟨hRI, hbw, hSt, hRR⟩
      have HI : Hid (SInv n zs hops s t S) := steps_inv HZ.out HI0.out t S hSt
      have htn : t ≤ n := steps_le HZ.out HI0.out hSt
      have HTK : Hid (type_of% (take_calls n db kb hb sb n n n n D Ha Se wr hRI.d hRI.h hRI.s hRR.lD hRR.lH hRR.lS hn)) := take_calls n db kb hb sb n n n n D Ha Se wr hRI.d hRI.h hRI.s hRR.lD hRR.lH hRR.lS hn
      obtain ⟨c0, c1, c2, c3⟩ := box4 hRI.box
      have cs := lt_of_get hRI.box
      clear htb hRI hbw hSt hRR
      by_cases hse : (t : Int) < se
      · go_wp2_with fail
        refine HTK.out.mono ?_
        rintro e w4 ⟨⟨r, rfl, hT⟩, hb4⟩
        have G4 : Hid (RI W0.heap.size n w4 bx db kb hb sb D K Ha Se ∧ Below W0.heap.size W0 w4) := ⟨G1.out.1.keep hb4, btr G1.out.2.1 hb4⟩
        clear hb4 c0 c1 c2 c3 cs HTK
        obtain ⟨c0, c1, c2, c3⟩ := box4 G4.out.1.box
        have cs := lt_of_get G4.out.1.box
        rcases hT with ⟨rfl, hNU⟩ | ⟨v, k, rfl, hLU⟩
        · have HE : Hid (RunEnd n se mo t S) := Or.inr (Or.inl ⟨G1.out.2.2.2.noneOf HI.out.opn hNU, HTB.out⟩)
          clear hNU
          obtain ⟨z0, z1, z2, z3, y0, y1, y2, y3, zl⟩ := zero4 ((G4.out.2.block _ (lt_of_get HRB.out)).trans HRB.out)
          go_wp2
          refine bodyPost_ret (v := .agg #[.slice (some ⟨db, 0, none⟩) n n, .slice (some ⟨kb, 0, none⟩) n n, .slice (some ⟨hb, 0, none⟩) n n, .slice (some ⟨sb, 0, none⟩) n n]) (by simp [results, Tryz.results86, go_sem, z0, z1, z2, z3]) rfl ?_
          obtain ⟨hf1, hf2⟩ := G4.out.1.fin (Nat.le_of_eq HS0.out) HB0.out G4.out.2 (c0 := .slice (some ⟨db, 0, none⟩) n n) (c1 := .slice (some ⟨kb, 0, none⟩) n n) (c2 := .slice (some ⟨hb, 0, none⟩) n n) (c3 := .slice (some ⟨sb, 0, none⟩) n n)
          exact ⟨db, kb, hb, sb, D, K, Ha, Se, t, S, rfl, ⟨G1.out.2.2.1, HE.out, G1.out.2.2.2⟩, hf1, hf2⟩
        · have HLU : Hid (LU D Ha Se n v k) := hLU
          have HL : Hid (Least n S.f v k) := G1.out.2.2.2.leastOf HI.out.opn hLU
          have hvn : v < n := hLU.1
          obtain ⟨q0, ql, _⟩ := G4.out.1.d.at hLU.2.1.1
          have i1 : (v : Int) < (n : Int) := by omega
          have i2 : (0 : Int) ≤ (v : Int) := by omega
          have i3 : ¬ (v : Int) < 0 := by omega
          have hlab := HI.out.lab v k (HI.out.opn v k HL.out.1 HL.out.2.1)
          have hk1 : 0 ≤ k := hlab.1
          have hk2 : k ≤ 9223372036854775808 := by have h1 := hlab.2.1; have h2 := hlab.2.2.2.1; omega
          obtain ⟨h, hh⟩ : ∃ h, S.hs v = h := ⟨_, rfl⟩
          have hh1 : 0 ≤ h := by rw [← hh]; exact hlab.2.2.1
          have hh2 : h ≤ 1000000 := by rw [← hh]; have h2 := hlab.2.2.2.1; omega
          have HH : Hid (S.hs v = h) := hh
          have hvs := HI.out.opn v k HL.out.1 HL.out.2.1
          have hrr := G1.out.2.2.2.some' v k hvs
          have HKV : Hid (K[v]? = some h ∧ Se[v]? = some false) := ⟨by rw [← hh]; exact hrr.2.1, hLU.2.1.2.2⟩
          clear hLU hlab hh hvs hrr
          by_cases hmo : mo < k
          · have HE : Hid (RunEnd n se mo t S) := Or.inr (Or.inr ⟨v, k, HL.out, hmo, HTB.out⟩)
            obtain ⟨z0, z1, z2, z3, y0, y1, y2, y3, zl⟩ := zero4 ((G4.out.2.block _ (lt_of_get HRB.out)).trans HRB.out)
            go_wp2
            refine bodyPost_ret (v := .agg #[.slice (some ⟨db, 0, none⟩) n n, .slice (some ⟨kb, 0, none⟩) n n, .slice (some ⟨hb, 0, none⟩) n n, .slice (some ⟨sb, 0, none⟩) n n]) (by simp [results, Tryz.results86, go_sem, z0, z1, z2, z3]) rfl ?_
            obtain ⟨hf1, hf2⟩ := G4.out.1.fin (Nat.le_of_eq HS0.out) HB0.out G4.out.2 (c0 := .slice (some ⟨db, 0, none⟩) n n) (c1 := .slice (some ⟨kb, 0, none⟩) n n) (c2 := .slice (some ⟨hb, 0, none⟩) n n) (c3 := .slice (some ⟨sb, 0, none⟩) n n)
            exact ⟨db, kb, hb, sb, D, K, Ha, Se, t, S, rfl, ⟨G1.out.2.2.1, HE.out, G1.out.2.2.2⟩, hf1, hf2⟩
          · have hmo' : ¬ k > mo := by omega
            obtain ⟨q3, ql3, qf3⟩ := G4.out.1.s.at HKV.out.2
            have G5 : Hid (RI W0.heap.size n (w4.setCell ⟨sb, v, none⟩ (.bool true)) bx db kb hb sb D K Ha (Se.set v true) ∧ Below W0.heap.size W0 (w4.setCell ⟨sb, v, none⟩ (.bool true)) ∧ RR n (S.pop v) D K Ha (Se.set v true) ∧ LI n v k h (S.pop v)) := ⟨G4.out.1.setS v true, G4.out.2.setCell (p := ⟨sb, v, none⟩) G4.out.1.low.2.2.2.2 _, G1.out.2.2.2.pop (HI.out.opn v k HL.out.1 HL.out.2.1), by rw [← HH.out]; exact LI.start HI.out HL.out⟩
            go_upto_region 10 with fail
            generalize w4.setCell ⟨sb, v, none⟩ (.bool true) = w5 at *
            clear q0 ql q3 ql3 qf3 c0 c1 c2 c3 cs
            obtain ⟨c0, c1, c2, c3⟩ := box4 G5.out.1.box
            have cs := lt_of_get G5.out.1.box
            obtain ⟨q0, ql, _⟩ := G5.out.1.k.at HKV.out.1
            by_cases hho : hops ≤ h
            · have hho' : h ≥ hops := hho
              have HST : Hid (S.step zs hops v k = S.pop v) := by
                show _ = _
                unfold FS.step
                rw [if_neg (by rw [HH.out]; omega)]
              go_wp2
              go_roundw
              case rel => exact ⟨t + 1, ⟨by go_num, Or.inr (by omega)⟩, D, K, Ha, Se.set v true, S.step zs hops v k, G5.out.1, G5.out.2.1, ⟨S, v, k, G1.out.2.2.1, HL.out, by omega, rfl⟩, by rw [HST.out]; exact G5.out.2.2.1⟩
              case measure => simp [intOf]; omega
            · have hho' : ¬ h ≥ hops := hho
              have HST : Hid (S.step zs hops v k = (arcsOf zs v).foldl (relax1 v k h) (S.pop v)) := by
                show _ = _
                unfold FS.step
                rw [if_pos (by rw [HH.out]; omega), HH.out]
                rfl
              have HRX : Hid (∀ wx, Below W0.heap.size W0 wx → RowsIn wx rb n zs) := fun wx hx => HRW.out.keep (btr HB0.out hx)
              obtain ⟨o, c, hrow, _⟩ := (HRX.out w5 G5.out.2.1).row v hvn
              have hrl := (HRX.out w5 G5.out.2.1).lt
              have HHF : Hid (∀ wx, Below w5.heap.size w5 wx ∨ Below W0.heap.size W0 wx → HalfIn wx o (arcsOf zs v)) := fun wx hx => by
                have hx' : Below W0.heap.size W0 wx := by
                  rcases hx with hx | hx
                  · exact btr G5.out.2.1 hx
                  · exact hx
                obtain ⟨o', c', h1, h2⟩ := (HRX.out wx hx').row v hvn
                obtain ⟨o2, c2, h3, h4⟩ := HRW.out.row v hvn
                have e1 := ((btr HB0.out hx').cell (p := ⟨rb, v, none⟩) HRW.out.lt).trans h3
                have e2 := ((btr HB0.out G5.out.2.1).cell (p := ⟨rb, v, none⟩) HRW.out.lt).trans h3
                rw [e1] at h1
                rw [e2] at hrow
                injection h1 with h1
                injection hrow with hrow
                injection h1 with h1
                injection hrow with hrow
                subst h1
                subst hrow
                exact h2
              obtain ⟨m, hm⟩ : ∃ m, (arcsOf zs v).length = m := ⟨_, rfl⟩
              have HM : Hid ((arcsOf zs v).length = m) := hm
              have hmb : m ≤ 1048576 := by
                have h2 := HZ.out.short
                have h3 := arcsOf_len zs v
                omega
              rw [hm] at hrow
              clear hm
              go_wp2_with fail
              clear c0 c1 c2 c3 cs q0 ql hrow hrl
              go_loopw [67] (fun jv wr => ∃ j : Nat, j ≤ m ∧ jv = .int .i64 j ∧ ∃ D' K' Ha', RI W0.heap.size n wr bx db kb hb sb D' K' Ha' (Se.set v true) ∧ Below W0.heap.size W0 wr ∧ RR n (((arcsOf zs v).take j).foldl (relax1 v k h) (S.pop v)) D' K' Ha' (Se.set v true) ∧ LI n v k h (((arcsOf zs v).take j).foldl (relax1 v k h) (S.pop v))) (fun jv _ => m - (intOf jv).toNat)
              case atStart => exact ⟨0, Nat.zero_le _, rfl, D, K, Ha, G5.out.1, G5.out.2.1, G5.out.2.2.1, G5.out.2.2.2⟩
              case round =>
                obtain ⟨j, hj, rfl, D', K', Ha', hRI, hbw, hRR, hLI⟩ := hrel
                obtain ⟨Sj, hSj⟩ : ∃ Sj, ((arcsOf zs v).take j).foldl (relax1 v k h) (S.pop v) = Sj := ⟨_, rfl⟩
                rw [hSj] at hRR hLI
                have HSJ : Hid (((arcsOf zs v).take j).foldl (relax1 v k h) (S.pop v) = Sj) := hSj
                have G6 : Hid (RI W0.heap.size n wr bx db kb hb sb D' K' Ha' (Se.set v true) ∧ Below W0.heap.size W0 wr ∧ RR n Sj D' K' Ha' (Se.set v true) ∧ LI n v k h Sj) := ⟨hRI, hbw, hRR, hLI⟩
                by_cases hlt : j < m
                · obtain ⟨a, ha⟩ : ∃ a, (arcsOf zs v)[j]? = some a := ⟨(arcsOf zs v)[j]'(by rw [HM.out]; exact hlt), List.getElem?_eq_getElem _⟩
                  obtain ⟨b, off, rfl, tl, t0, t1⟩ := HHF.out wr (Or.inr hbw) j a ha
                  have hmem := (HZ.out.arcRow_mem v a).1 (List.mem_of_getElem? ha)
                  have hends := HZ.out.ends a hmem.1
                  have hav := hmem.2
                  obtain ⟨x, hx⟩ : ∃ x : Nat, a.2.1 = (x : Int) := ⟨a.2.1.toNat, by omega⟩
                  obtain ⟨r, hr⟩ : ∃ r, a.2.2 = r := ⟨_, rfl⟩
                  have hxn : x < n := by omega
                  have hxv : x ≠ v := by omega
                  have r0 : 0 ≤ r := by omega
                  have r1 : r ≤ 140737488355328 := by omega
                  rw [hx] at t0
                  rw [hr] at t1
                  have HNX : Hid (((arcsOf zs v).take (j + 1)).foldl (relax1 v k h) (S.pop v) = relax1 v k h Sj a) := by
                    show _ = _
                    rw [List.take_add_one, ha, List.foldl_append, HSJ.out]
                    rfl
                  have HAX : Hid (a.2.1 = (x : Int) ∧ a.2.2 = r ∧ x < n) := ⟨hx, hr, hxn⟩
                  have HLN : Hid (LI n v k h (relax1 v k h Sj a)) := hLI.next (by rw [hx]; simpa using hxv)
                  obtain ⟨dx, hdx⟩ : ∃ dx, D'[x]? = some dx := ⟨D'[x]'(by rw [hRR.lD]; exact hxn), List.getElem?_eq_getElem _⟩
                  obtain ⟨ax, hax⟩ : ∃ ax, Ha'[x]? = some ax := ⟨Ha'[x]'(by rw [hRR.lH]; exact hxn), List.getElem?_eq_getElem _⟩
                  obtain ⟨sx, hsx⟩ : ∃ sx, (Se.set v true)[x]? = some sx := ⟨(Se.set v true)[x]'(by rw [hRR.lS]; exact hxn), List.getElem?_eq_getElem _⟩
                  obtain ⟨kx, hkx⟩ : ∃ kx, K'[x]? = some kx := ⟨K'[x]'(by rw [hRR.lK]; exact hxn), List.getElem?_eq_getElem _⟩
                  have HBT : Hid (Sj.better x (k + r) = (!sx && (!ax || decide (k + r < dx)))) := hLI.better hRR hdx hax hsx r0
                  have HV : Hid (D'[v]? = some k ∧ K'[v]? = some h) := ⟨(hRR.some' v k hLI.me.1).1, by rw [(hRR.some' v k hLI.me.1).2.1, hLI.me.2.2]⟩
                  have HX : Hid (D'[x]? = some dx ∧ Ha'[x]? = some ax ∧ (Se.set v true)[x]? = some sx ∧ K'[x]? = some kx) := ⟨hdx, hax, hsx, hkx⟩
                  have hal : Below wr.heap.size wr (wr.alloc (.cells #[.int .i64 x, .int .u64 r] 205)) := (Below.refl _ wr).alloc (Nat.le_refl _) _
                  have G7 : Hid (RI W0.heap.size n (wr.alloc (.cells #[.int .i64 x, .int .u64 r] 205)) bx db kb hb sb D' K' Ha' (Se.set v true) ∧ Below W0.heap.size W0 (wr.alloc (.cells #[.int .i64 x, .int .u64 r] 205)) ∧ (wr.alloc (.cells #[.int .i64 x, .int .u64 r] 205)).heap[wr.heap.size]? = some (.cells #[.int .i64 x, .int .u64 r] 205)) := ⟨hRI.keep hal, btr hbw hal, heap_new _ _⟩
                  have HNE : Hid (bx ≠ wr.heap.size ∧ db ≠ wr.heap.size ∧ kb ≠ wr.heap.size ∧ hb ≠ wr.heap.size ∧ sb ≠ wr.heap.size) := by
                    have l1 := lt_of_get hRI.box
                    have l2 := lt_of_get hRI.d
                    have l3 := lt_of_get hRI.k
                    have l4 := lt_of_get hRI.h
                    have l5 := lt_of_get hRI.s
                    exact ⟨by omega, by omega, by omega, by omega, by omega⟩
                  have s1 : (x : Int) < (n : Int) := by omega
                  have s2 : (0 : Int) ≤ (x : Int) := by omega
                  have s3 : (j : Int) < (m : Int) := by omega
                  have s4 : (0 : Int) ≤ (j : Int) := by omega
                  have s5 : IntKind.u64.wrap (k + r) = k + r := by rw [IntKind.wrap_u64] <;> omega
                  have s6 : IntKind.i64.wrap (h + 1) = h + 1 := by rw [IntKind.wrap_i64] <;> omega
                  clear hRI hbw hRR hLI hmem hends hav hx hr hdx hax hsx hkx hal hSj ha
                  go_upto_region 14 with fail
                  generalize wr.alloc (.cells #[.int .i64 x, .int .u64 r] 205) = w6 at *
                  generalize wr.heap.size = hf at *
                  clear t0 t1 tl
                  obtain ⟨c0, c1, c2, c3⟩ := box4 G7.out.1.box
                  have cs := lt_of_get G7.out.1.box
                  obtain ⟨h0, h1, _, _⟩ := cell_two G7.out.2.2
                  have hl := lt_of_get G7.out.2.2
                  obtain ⟨q0, ql, _⟩ := G7.out.1.d.at HV.out.1
                  go_quiet (fail)
                  have G8 : Hid (RI W0.heap.size n (w6.drewN nq) bx db kb hb sb D' K' Ha' (Se.set v true) ∧ Below W0.heap.size W0 (w6.drewN nq) ∧ (w6.drewN nq).heap[hf]? = some (.cells #[.int .i64 x, .int .u64 r] 205)) := ⟨G7.out.1.keep (below_drewN (Below.refl _ _) nq), below_drewN G7.out.2.1 nq, G7.out.2.2⟩
                  clear c0 c1 c2 c3 cs h0 h1 hl q0 ql
                  generalize w6.drewN nq = w7 at *
                  obtain ⟨c0, c1, c2, c3⟩ := box4 G8.out.1.box
                  have cs := lt_of_get G8.out.1.box
                  obtain ⟨h0, h1, _, _⟩ := cell_two G8.out.2.2
                  have hl := lt_of_get G8.out.2.2
                  obtain ⟨e0, el0, _⟩ := G8.out.1.s.at HX.out.2.2.1
                  obtain ⟨e1, el1, ef1⟩ := G8.out.1.h.at HX.out.2.1
                  obtain ⟨e2, el2, _⟩ := G8.out.1.d.at HX.out.1
                  have HC : (Sj.better x (k + r) = false ∧ (sx = true ∨ (sx = false ∧ ax = true ∧ ¬ k + r < dx))) ∨ (Sj.better x (k + r) = true ∧ sx = false ∧ (ax = false ∨ (ax = true ∧ k + r < dx))) := by
                    have hB := HBT.out
                    cases sx with
                    | true => exact Or.inl ⟨by rw [hB]; rfl, Or.inl rfl⟩
                    | false =>
                      cases ax with
                      | false => exact Or.inr ⟨by rw [hB]; rfl, rfl, Or.inl rfl⟩
                      | true =>
                        by_cases hd : k + r < dx
                        · exact Or.inr ⟨by rw [hB]; simp [hd], rfl, Or.inr ⟨rfl, hd⟩⟩
                        · exact Or.inl ⟨by rw [hB]; simp [hd], Or.inr ⟨rfl, rfl, hd⟩⟩
                  rcases HC with ⟨hB, hC⟩ | ⟨hB, rfl, hC⟩
                  · have HRN : Hid (RR n (relax1 v k h Sj a) D' K' Ha' (Se.set v true)) := G6.out.2.2.1.skip HAX.out.1 HAX.out.2.1 hB
                    clear hB
                    rcases hC with rfl | ⟨rfl, rfl, hd⟩
                    all_goals
                      go_wp2
                      go_roundw
                      case rel => exact ⟨j + 1, by omega, by go_num, D', K', Ha', G8.out.1, G8.out.2.1, by rw [HNX.out]; exact HRN.out, by rw [HNX.out]; exact HLN.out⟩
                      case measure => simp [intOf]; omega
                  · have HRN : Hid (RR n (relax1 v k h Sj a) (D'.set x (k + r)) (K'.set x (h + 1)) (Ha'.set x true) (Se.set v true)) := G6.out.2.2.1.put HAX.out.1 HAX.out.2.1 HAX.out.2.2 HX.out.2.2.1 hB
                    have G9 : Hid (RI W0.heap.size n (w7.setCell ⟨hb, x, none⟩ (.bool true)) bx db kb hb sb D' K' (Ha'.set x true) (Se.set v true) ∧ Below W0.heap.size W0 (w7.setCell ⟨hb, x, none⟩ (.bool true)) ∧ (w7.setCell ⟨hb, x, none⟩ (.bool true)).heap[hf]? = some (.cells #[.int .i64 x, .int .u64 r] 205)) := ⟨G8.out.1.setH x true, G8.out.2.1.setCell (p := ⟨hb, x, none⟩) G8.out.1.low.2.2.2.1 _, (heap_setCell_other _ _ _ _ (Ne.symm HNE.out.2.2.2.1)).trans G8.out.2.2⟩
                    clear hB
                    rcases hC with rfl | ⟨rfl, hd⟩
                    all_goals
                      go_upto_region 17 with fail
                      generalize w7.setCell ⟨hb, x, none⟩ (.bool true) = w8 at *
                      clear c0 c1 c2 c3 cs h0 h1 hl e0 el0 e1 el1 ef1 e2 el2
                      obtain ⟨c0, c1, c2, c3⟩ := box4 G9.out.1.box
                      have cs := lt_of_get G9.out.1.box
                      obtain ⟨h0, h1, _, _⟩ := cell_two G9.out.2.2
                      have hl := lt_of_get G9.out.2.2
                      obtain ⟨e2, el2, ef2⟩ := G9.out.1.d.at HX.out.1
                      have G10 : Hid (RI W0.heap.size n (w8.setCell ⟨db, x, none⟩ (.int .u64 (k + r))) bx db kb hb sb (D'.set x (k + r)) K' (Ha'.set x true) (Se.set v true) ∧ Below W0.heap.size W0 (w8.setCell ⟨db, x, none⟩ (.int .u64 (k + r))) ∧ (w8.setCell ⟨db, x, none⟩ (.int .u64 (k + r))).heap[hf]? = some (.cells #[.int .i64 x, .int .u64 r] 205)) := ⟨G9.out.1.setD x (k + r), G9.out.2.1.setCell (p := ⟨db, x, none⟩) G9.out.1.low.2.1 _, (heap_setCell_other _ _ _ _ (Ne.symm HNE.out.2.1)).trans G9.out.2.2⟩
                      go_upto_region 18 with fail
                      generalize w8.setCell ⟨db, x, none⟩ (.int .u64 (k + r)) = w9 at *
                      clear c0 c1 c2 c3 cs h0 h1 hl e2 el2 ef2
                      obtain ⟨c0, c1, c2, c3⟩ := box4 G10.out.1.box
                      have cs := lt_of_get G10.out.1.box
                      obtain ⟨h0, h1, _, _⟩ := cell_two G10.out.2.2
                      have hl := lt_of_get G10.out.2.2
                      obtain ⟨e3, el3, ef3⟩ := G10.out.1.k.at HX.out.2.2.2
                      obtain ⟨e4, _, _⟩ := G10.out.1.k.at HV.out.2
                      go_region
                      go_wp2
                      go_roundw
                      case rel => exact ⟨j + 1, by omega, by go_num, D'.set x (k + r), K'.set x (h + 1), Ha'.set x true, (G10.out.1.setK x (h + 1)).keep (Below.refl _ _).drew, (G10.out.2.1.setCell (p := ⟨kb, x, none⟩) G10.out.1.low.2.2.1 _).drew, by rw [HNX.out]; exact HRN.out, by rw [HNX.out]; exact HLN.out⟩
                      case measure => simp [intOf]; omega
                · obtain rfl : j = m := by omega
                  have HAL : Hid (S.step zs hops v k = Sj) := by
                    show _ = _
                    rw [HST.out, ← HSJ.out, ← HM.out, List.take_length]
                  clear hRI hbw hRR hLI hSj
                  go_wp2
                  go_roundw
                  case rel => exact ⟨t + 1, ⟨by go_num, Or.inr (by omega)⟩, D', K', Ha', Se.set v true, S.step zs hops v k, G6.out.1, G6.out.2.1, ⟨S, v, k, G1.out.2.2.1, HL.out, by omega, rfl⟩, by rw [HAL.out]; exact G6.out.2.2.1⟩
                  case measure => simp [intOf]; omega
      · have HE : Hid (RunEnd n se mo t S) := Or.inl ⟨hse, HTB.out⟩
        obtain ⟨z0, z1, z2, z3, y0, y1, y2, y3, zl⟩ := zero4 ((G1.out.2.1.block _ (lt_of_get HRB.out)).trans HRB.out)
        go_wp2
        refine bodyPost_ret (v := .agg #[.slice (some ⟨db, 0, none⟩) n n, .slice (some ⟨kb, 0, none⟩) n n, .slice (some ⟨hb, 0, none⟩) n n, .slice (some ⟨sb, 0, none⟩) n n]) (by simp [results, Tryz.results86, go_sem, z0, z1, z2, z3]) rfl ?_
        obtain ⟨hf1, hf2⟩ := G1.out.1.fin (Nat.le_of_eq HS0.out) HB0.out G1.out.2.1 (c0 := .slice (some ⟨db, 0, none⟩) n n) (c1 := .slice (some ⟨kb, 0, none⟩) n n) (c2 := .slice (some ⟨hb, 0, none⟩) n n) (c3 := .slice (some ⟨sb, 0, none⟩) n n)
        exact ⟨db, kb, hb, sb, D, K, Ha, Se, t, S, rfl, ⟨G1.out.2.2.1, HE.out, G1.out.2.2.2⟩, hf1, hf2⟩
end Go.Proofs.YtbkclhaonbjobaaGreatDoor.Wt
