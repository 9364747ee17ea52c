/- OverlayMemory, walked. -/
import Derived.Test.YtpaamcapopnhoaaOyX
import Derived.Test.YtpaamcapopnhoaaSpX
import Derived.Deep.Cut
namespace Go.Proofs.Ytpaamcapopnhoaa
open Go.RowKit Go.Extern Go.Sort

attribute [local go_sem] Oper.semAt_some

/-- a row of one's own, whatever it holds. -/
def RowS (w : World) (B : Nat) (v : Value) (n : Nat) : Prop := ∃ ys, w.ownsRow B 43 3 v n ys
theorem RowS.set {w : World} {B n : Nat} {v : Value} (h : RowS w B v n) (b o : Nat) (x : Value) : RowS (w.setCell ⟨b, o, none⟩ x) B v n := by
  obtain ⟨ys, h1, h2⟩ := h
  rcases h2 with h2 | ⟨g, cap, cur, e, hb, hh, h3, h4, h5, h6⟩
  · exact ⟨ys, h1, Or.inl h2⟩
  · by_cases hg : g = b
    · subst hg
      refine ⟨(cur.setIfInBounds o x).toList.take (n * 3), ?_, Or.inr ⟨g, cap, _, e, hb, hsc_same _ hh, h3, h4, by simpa using h5, rfl⟩⟩
      rw [List.length_take, Array.length_toList, Array.size_setIfInBounds]
      exact Nat.min_eq_left (by omega)
    · exact ⟨ys, h1, Or.inr ⟨g, cap, cur, e, hb, (hso _ hg).trans hh, h3, h4, h5, h6⟩⟩
theorem RowS.keep {w w' : World} {B n : Nat} {v : Value} (h : RowS w B v n) (hb : Below w.heap.size w w') : RowS w' B v n := by
  obtain ⟨ys, h⟩ := h
  exact ⟨ys, rowH_keep h hb⟩
theorem RowS.slice {w : World} {B n : Nat} {v : Value} (h : RowS w B v n) : ∃ ao c, v = .slice ao n c := by
  obtain ⟨ys, h⟩ := h
  exact rowH_slice h
theorem RowS.at {w : World} {B n : Nat} {so : Option Addr} {c : Nat} (h : RowS w B (.slice so n c) n) {k : Nat} (hk : k < n) : ∃ g, so = some ⟨g, 0, none⟩ ∧ B ≤ g ∧ g < w.heap.size ∧ ∃ v0 v1 v2, w.cell? ⟨g, k * 3, none⟩ = some v0 ∧ w.cell? ⟨g, k * 3 + 1, none⟩ = some v1 ∧ w.cell? ⟨g, k * 3 + 2, none⟩ = some v2 ∧ w.frozen? ⟨g, k * 3, none⟩ = false ∧ w.frozen? ⟨g, k * 3 + 1, none⟩ = false ∧ w.frozen? ⟨g, k * 3 + 2, none⟩ = false := by
  obtain ⟨ys, h1, h2⟩ := h
  rcases h2 with ⟨_, h2⟩ | ⟨g, cap, cur, e, hb, hh, h3, h4, h5, h6⟩
  · omega
  · injection e with e1 e2 e3
    subst e3
    refine ⟨g, e1, hb, lt_of_get hh, cur[k * 3]'(by omega), cur[k * 3 + 1]'(by omega), cur[k * 3 + 2]'(by omega), ?_, ?_, ?_, ?_, ?_, ?_⟩
    · simp [World.cell?, hh]
    · simp [World.cell?, hh]
    · simp [World.cell?, hh]
    · simp [World.frozen?, hh]
    · simp [World.frozen?, hh]
    · simp [World.frozen?, hh]
/-- append of two noughts onto such a row. -/
theorem wpList_append_two {w : World} {ops : Array Oper} {rest : List Oper} {o : Oper} {a : Act} {Q : Exit → Act → World → Prop} (hgd : o.guard = none) (s x : Operand)
    (ho : o.op = .call { callee := .builtin .append, args := #[s, x], argTypes := #[39, 39] })
    (base : Nat) (v : Value) (n : Nat) (hs : a.eval s = v) (hown : RowS w base v n)
    (ad : Addr) (hx : a.eval x = .slice (some ad) 2 2) (hl : HasHs w (.slice (some ad) 2 2) [(0, 0, 0), (0, 0, 0)])
    (hlen : n ≤ 65536) (hbase : base ≤ w.heap.size)
    (h : ∀ so sc w', w.grownBy w' v.ownBlock → wpList Try.prog ops Q rest (a.put o.dst (.slice so (n + 2) sc)) w') : wpList Try.prog ops Q (o :: rest) a w := by
  obtain ⟨i0, hi, hz0, hz1, hz2⟩ : ∃ i, Try.prog.info? 43 = some i ∧ i.zero = some (.agg #[.int .i64 0, .int .u64 0, .int .i64 0]) ∧ i.size = 3 ∧ i.bytes = 24 := by
    have h := Try.infoH
    cases hi : Try.prog.info? 43 with
    | none => rw [hi] at h; cases h
    | some i => rw [hi] at h; simp at h; exact ⟨i, rfl, h.1, h.2.1, h.2.2⟩
  obtain ⟨ys, hown⟩ := hown
  refine wpList_append_own _ hgd s x 39 ho base 43 i0 _ 3 24 Try.underlying39 hi hz0 hz1 hz2 rfl (by decide) v n ys hs hown ad 2 2 (flatH [(0, 0, 0), (0, 0, 0)]) hx (flatH_len [(0, 0, 0), (0, 0, 0)]) (flatH_at hl) (flatH_one [(0, 0, 0), (0, 0, 0)]) (by unfold maxLen; omega) (by omega) hbase ?_
  intro v' w' h1 h2 _
  obtain ⟨so, sc, rfl⟩ := rowH_slice h1
  exact h so sc w' h2
theorem RowS.grown {w0 w w' : World} {B n : Nat} {v : Value} (h : RowS w B v n) (hb : Below B w0 w) (hs : B ≤ w.heap.size) (hg : w.grownBy w' v.ownBlock) : Below B w0 w' := by
  obtain ⟨ys, h⟩ := h
  exact belowH_grown hb h hg hs
theorem hs_two (w : World) : HasHs (w.alloc (.cells #[.int .i64 0, .int .u64 0, .int .i64 0, .int .i64 0, .int .u64 0, .int .i64 0] 43)) (.slice (some ⟨w.heap.size, 0, none⟩) 2 2) [(0, 0, 0), (0, 0, 0)] := by
  have h := heap_new w (.cells #[.int .i64 0, .int .u64 0, .int .i64 0, .int .i64 0, .int .u64 0, .int .i64 0] 43)
  generalize w.alloc (.cells #[.int .i64 0, .int .u64 0, .int .i64 0, .int .i64 0, .int .u64 0, .int .i64 0] 43) = W at h ⊢
  refine ⟨_, _, rfl, fun j x hj => ?_⟩
  match j, hj with
  | 0, hj =>
    simp at hj
    subst hj
    exact ⟨_, 0, rfl, lt_of_get h, by simp [World.cell?, h], by simp [World.cell?, h], by simp [World.cell?, h]⟩
  | 1, hj =>
    simp at hj
    subst hj
    exact ⟨_, 0, rfl, lt_of_get h, by simp [World.cell?, h], by simp [World.cell?, h], by simp [World.cell?, h]⟩
  | j + 2, hj => simp at hj
theorem rows_all {n : Nat} {zs : List (Int × Int × Int)} {R : Bool → Nat → Rw} (hi : OvInv n (List.replicate n true) R) (hR : ∀ s u, u < n → (R s u).2 = (sideL s zs u, 0)) (s : Bool) {u : Nat} (hu : u < n) : livH (List.replicate n true) (R s u).2.1 = sideL s zs u := by
  have h := hi.gone s u hu
  rw [hR s u hu] at h ⊢
  simp only [Nat.zero_add] at h
  exact List.filter_eq_self.2 (List.length_filter_eq_length_iff.1 h)

set_option maxRecDepth 100000 in
set_option maxHeartbeats 4000000 in
theorem memory_good (n : Nat) (ao : Option Addr) (cap : Nat) (xs : List (Int × Int × Int)) (w : World) (hX : HasArcs w (.slice ao xs.length cap) xs) (hno : ao = none → cap = 0) (hxl : xs.length ≤ maxLen) (hfew : fewB (n : Int) xs 20 = true) (hg : graphErr (n : Int) xs = (0, [])) :
    Calls Try.prog 5 #[.agg #[.int .i64 (n : Int), .slice ao xs.length cap]] w fun e w' => e = .returned (.bool true) ∧ Below w.heap.size w w' := by
  obtain ⟨W0, hW0⟩ : ∃ W0, w.alloc (.cells #[.int .i64 (n : Int), .slice ao xs.length cap] 24) = W0 := ⟨_, rfl⟩
  have HW0 : Hid (w.alloc (.cells #[.int .i64 (n : Int), .slice ao xs.length cap] 24) = W0) := hW0
  have hB0 : Below w.heap.size w W0 := by rw [← hW0]; exact (Below.refl _ w).alloc (Nat.le_refl _) _
  have hbx : W0.heap[w.heap.size]? = some (.cells #[.int .i64 (n : Int), .slice ao xs.length cap] 24) := by rw [← hW0]; exact heap_new _ _
  have HG : Hid (∀ wx, Below W0.heap.size W0 wx → (wx.cell? ⟨w.heap.size, 0, none⟩ = some (.int .i64 (n : Int)) ∧ wx.cell? ⟨w.heap.size, 1, none⟩ = some (.slice ao xs.length cap) ∧ w.heap.size < wx.heap.size) ∧ HasArcs wx (.slice ao xs.length cap) xs ∧ Below w.heap.size w wx) := fun wx hwx => by
    have hgg := (hwx.block _ (lt_of_get hbx)).trans hbx
    have hb := hB0.trans (hwx.mono hB0.size)
    exact ⟨⟨(cell_two hgg).1, (cell_two hgg).2.1, lt_of_get hgg⟩, hX.keep hb, hb⟩
  have hx26 : xs.length ≤ 262144 := by have := ((good_iff _ _).1 hg).1; omega
  have hn65 : n ≤ 65536 := by have := ((good_iff _ _).1 hg).1; omega
  have HAW : Hid (type_of% (awake11_calls W0)) := awake11_calls W0
  have HFW : Hid (∀ wx, Below W0.heap.size W0 wx → Calls Try.prog 7 #[.agg #[.int .i64 (n : Int), .slice ao xs.length cap], .int .i64 20] wx fun e w' => e = .returned (.bool true) ∧ Below wx.heap.size wx w') := fun wx hwx => by
    have h := few_calls (n : Int) ao cap xs 20 wx (HG.out wx hwx).2.1 hxl
    rw [hfew] at h
    exact h
  have HNO : Hid (ao = none → cap = 0) := hno
  have HGE : Hid (graphErr (n : Int) xs = (0, [])) := hg
  clear hW0 hB0 hbx hX hfew hg hno
  go_enter Try.func5, Try.ntmps5
  go_wp2_with fail
  rw [HW0.out]
  refine HAW.out.mono ?_
  rintro e w1 ⟨rfl, hb1⟩
  have HB1 : Hid (Below W0.heap.size W0 w1) := hb1
  obtain ⟨⟨c0, c1, cs⟩, _, _⟩ := HG.out w1 hb1
  clear hb1
  go_wp2_with fail
  refine (HFW.out w1 HB1.out).mono ?_
  rintro e w2 ⟨rfl, hb2⟩
  have HB2 : Hid (Below W0.heap.size W0 w2) := HB1.out.trans (hb2.mono HB1.out.size)
  clear hb2 c0 c1 cs
  obtain ⟨⟨c0, c1, cs⟩, _, _⟩ := HG.out w2 HB2.out
  go_wp2_with fail
  refine (spare_calls (n : Int) ao cap xs w2 (HG.out w2 HB2.out).2.1 HNO.out (by omega)).mono ?_
  rintro e w3 ⟨so, sc, rfl, ho, h⟩
  obtain ⟨g, rfl, hsc, hgb⟩ : ∃ g, so = some ⟨g, 0, none⟩ ∧ xs.length + 2 ≤ sc ∧ ∃ cur, w3.heap[g]? = some (.cells cur 52 (0, 0)) ∧ cur.size = sc * 3 ∧ w2.heap.size ≤ g := by
    rcases ho.2 with ⟨e, h0⟩ | ⟨g, c, cur, e, h2, h3, hle, _, h5, _⟩
    · omega
    · injection e with e1 _ e3
      subst e3
      exact ⟨g, e1, hle, cur, h3, h5, h2⟩
  have R3 : Hid (Below W0.heap.size W0 w3 ∧ ∃ cur, w3.heap[g]? = some (.cells cur 52 (0, 0)) ∧ cur.size = sc * 3 ∧ w2.heap.size ≤ g) := ⟨HB2.out.trans (h.mono HB2.out.size), hgb⟩
  have A3 : Hid (HasArcs w3 (.slice (some ⟨g, 0, none⟩) (xs.length + 2) sc) (xs ++ marks)) := by
    have e2 : (xs ++ marks).length = xs.length + 2 := by rw [List.length_append]; rfl
    rw [← e2] at ho ⊢
    exact arcs_of_rowC ho
  clear h ho hgb c0 c1 cs
  go_wp2_with fail
  have hB := below_new3 w3 (.cells #[.int .i64 (n : Int), .slice (some ⟨g, 0, none⟩) xs.length sc] 24)
  have hN := heap_new w3 (.cells #[.int .i64 (n : Int), .slice (some ⟨g, 0, none⟩) xs.length sc] 24)
  generalize w3.alloc (.cells #[.int .i64 (n : Int), .slice (some ⟨g, 0, none⟩) xs.length sc] 24) = W3 at *
  have HX : Hid (∀ wx, Below W3.heap.size W3 wx → HasArcs wx (.slice (some ⟨g, 0, none⟩) (xs.length + 2) sc) (xs ++ marks) ∧ HasArcs wx (.slice (some ⟨g, 0, none⟩) xs.length sc) xs ∧ Below W0.heap.size W0 wx ∧ (∃ cur, wx.heap[g]? = some (.cells cur 52 (0, 0)) ∧ cur.size = sc * 3) ∧ W0.heap.size ≤ g ∧ g < W3.heap.size) := fun wx h => by
    have hA := A3.out.keep (btr hB h)
    obtain ⟨r1, cur, r2, r3, r4⟩ := R3.out
    have hgl := lt_of_get r2
    exact ⟨hA, arcs_front hA, btr r1 (btr hB h), ⟨cur, ((btr hB h).block g hgl).trans r2, r3⟩, Nat.le_trans HB2.out.size r4, Nat.lt_of_lt_of_le hgl hB.size⟩
  clear hB hN A3 R3
  refine (ov_new (n := n) _ xs.length sc xs W3 (HX.out W3 (Below.refl _ _)).2.1 HGE.out).mono ?_
  rintro e w4 ⟨pb, R, rfl, hO, hR, hb4⟩
  have H4 : Hid (IsOv noP W3.heap.size w4 pb n (List.replicate n true) R (n : Int) ((normA xs).length : Int) ∧ Below W3.heap.size W3 w4 ∧ ∀ s u, u < n → (R s u).2 = (sideL s (normA xs) u, 0)) := ⟨hO, hb4, hR⟩
  clear hO hb4 hR
  obtain ⟨⟨c0, c1, cs⟩, _, _⟩ := HG.out w4 (HX.out w4 H4.out.2.1).2.2.1
  go_wp2_with fail
  refine (kept_calls (n : Int) ao cap g sc xs w4 (HG.out w4 (HX.out w4 H4.out.2.1).2.2.1).2.1 (HX.out w4 H4.out.2.1).1 hsc (by omega)).mono ?_
  rintro e w5 ⟨rfl, hb5⟩
  have H5 : Hid (IsOv noP W3.heap.size w5 pb n (List.replicate n true) R (n : Int) ((normA xs).length : Int) ∧ Below W3.heap.size W3 w5) := ⟨IsOv.keep H4.out.1 hb5, btr H4.out.2.1 hb5⟩
  clear hb5 c0 c1 cs
  go_wp2_with fail
  go_loopw [42] (fun iv wr => ∃ k : Nat, k ≤ xs.length + 2 ∧ iv = .int .i64 (k : Nat) ∧ IsOv noP W3.heap.size wr pb n (List.replicate n true) R (n : Int) ((normA xs).length : Int) ∧ Below W0.heap.size W0 wr ∧ ∃ cur, wr.heap[g]? = some (.cells cur 52 (0, 0)) ∧ cur.size = sc * 3) (fun iv _ => xs.length + 2 - (intOf iv).toNat)
  case atStart => exact ⟨0, Nat.zero_le _, rfl, H5.out.1, (HX.out w5 H5.out.2).2.2.1, (HX.out w5 H5.out.2).2.2.2.1⟩
  case round =>
    obtain ⟨k, hk, rfl, hO, hB, cur, hcur, hsz⟩ := hrel
    by_cases hlt : k < xs.length + 2
    · obtain ⟨v0, hv0⟩ : ∃ v0, cur[k * 3]? = some v0 := ⟨cur[k * 3]'(by omega), by simp⟩
      obtain ⟨v1, hv1⟩ : ∃ v1, cur[k * 3 + 1]? = some v1 := ⟨cur[k * 3 + 1]'(by omega), by simp⟩
      obtain ⟨v2, hv2⟩ : ∃ v2, cur[k * 3 + 2]? = some v2 := ⟨cur[k * 3 + 2]'(by omega), by simp⟩
      have d0 : wr.cell? ⟨g, k * 3, none⟩ = some v0 := by simp [World.cell?, hcur, hv0]
      have d1 : wr.cell? ⟨g, k * 3 + 1, none⟩ = some v1 := by simp [World.cell?, hcur, hv1]
      have d2 : wr.cell? ⟨g, k * 3 + 2, none⟩ = some v2 := by simp [World.cell?, hcur, hv2]
      have f0 : wr.frozen? ⟨g, k * 3, none⟩ = false := by simp [World.frozen?, hcur]
      have f1 : wr.frozen? ⟨g, k * 3 + 1, none⟩ = false := by simp [World.frozen?, hcur]
      have f2 : wr.frozen? ⟨g, k * 3 + 2, none⟩ = false := by simp [World.frozen?, hcur]
      have gl : g < wr.heap.size := lt_of_get hcur
      have i1 : (k : Int) < (xs.length : Int) + 2 := by omega
      have i2 : (0 : Int) ≤ (k : Int) := by omega
      have hgg := (HX.out W3 (Below.refl _ _)).2.2.2.2
      have HS : Hid (IsOv noP W3.heap.size (((wr.setCell ⟨g, k * 3, none⟩ (.int .i64 0)).setCell ⟨g, k * 3 + 1, none⟩ (.int .i64 0)).setCell ⟨g, k * 3 + 2, none⟩ (.int .i64 77)) pb n (List.replicate n true) R (n : Int) ((normA xs).length : Int) ∧ Below W0.heap.size W0 (((wr.setCell ⟨g, k * 3, none⟩ (.int .i64 0)).setCell ⟨g, k * 3 + 1, none⟩ (.int .i64 0)).setCell ⟨g, k * 3 + 2, none⟩ (.int .i64 77)) ∧ ∃ cur, (((wr.setCell ⟨g, k * 3, none⟩ (.int .i64 0)).setCell ⟨g, k * 3 + 1, none⟩ (.int .i64 0)).setCell ⟨g, k * 3 + 2, none⟩ (.int .i64 77)).heap[g]? = some (.cells cur 52 (0, 0)) ∧ cur.size = sc * 3) := by
        refine ⟨IsOv.far hO (fun j h1 _ => ?_), ?_, _, hsc_same _ (hsc_same _ (hsc_same _ hcur)), by simpa using hsz⟩
        · have h2 : j ≠ g := by omega
          exact (hso _ h2).trans ((hso _ h2).trans (hso _ h2))
        · exact ((hB.setCell (p := ⟨g, k * 3, none⟩) (show W0.heap.size ≤ g from hgg.1) _).setCell (p := ⟨g, k * 3 + 1, none⟩) (show W0.heap.size ≤ g from hgg.1) _).setCell (p := ⟨g, k * 3 + 2, none⟩) (show W0.heap.size ≤ g from hgg.1) _
      clear hO hB hcur hsz hv0 hv1 hv2 hgg
      go_wp2
      go_roundw
      case rel => exact ⟨k + 1, by omega, by go_num, HS.out⟩
      case measure => simp [intOf]; omega
    · obtain rfl : k = xs.length + 2 := by omega
      have H6 : Hid (IsOv noP W3.heap.size wr pb n (List.replicate n true) R (n : Int) ((normA xs).length : Int) ∧ Below W0.heap.size W0 wr) := ⟨hO, hB⟩
      obtain ⟨⟨c0, c1, cs⟩, hA6, _⟩ := HG.out wr hB
      have HDN : Hid (type_of% (rDocNew11_calls n ao cap xs wr hA6 HGE.out)) := rDocNew11_calls n ao cap xs wr hA6 HGE.out
      clear hO hB hcur hsz hA6
      go_wp2_with fail
      refine HDN.out.mono ?_
      rintro e w7 ⟨bb, mo, mc, po, pc, rfl, hrow, _, hb7⟩
      have H7 : Hid (IsOv noP W3.heap.size w7 pb n (List.replicate n true) R (n : Int) ((normA xs).length : Int) ∧ Below W0.heap.size W0 w7 ∧ HasA4 w7 (.slice mo (normA xs).length mc) ((normA xs).map asA4)) := ⟨IsOv.keep H6.out.1 hb7, btr H6.out.2 hb7, a4_of_row (by rw [List.length_map]; exact hrow)⟩
      clear hrow hb7 c0 c1 cs
      go_upto_region 15 with fail
      obtain ⟨Z, hZ⟩ : ∃ Z, (w7.alloc (.cells #[.slice (some ⟨bb, 0, none⟩) n n, .slice mo (normA xs).length mc] 56)).alloc (.cells #[.int .i64 0, .slice po 0 pc] 59) = Z := ⟨_, rfl⟩
      rw [hZ]
      have bZ : Below w7.heap.size w7 Z := by rw [← hZ]; exact ((Below.refl _ w7).alloc (Nat.le_refl _) _).alloc (by simp) _
      have z8 : Z.heap[w7.heap.size]? = some (.cells #[.slice (some ⟨bb, 0, none⟩) n n, .slice mo (normA xs).length mc] 56) := by rw [← hZ, Below.heap_alloc _ _ _ (by simp)]; exact heap_new _ _
      have HZ : Hid (∀ wx, Below Z.heap.size Z wx → IsOv noP W3.heap.size wx pb n (List.replicate n true) R (n : Int) ((normA xs).length : Int) ∧ HasA4 wx (.slice mo (normA xs).length mc) ((normA xs).map asA4) ∧ (wx.cell? ⟨w.heap.size, 0, none⟩ = some (.int .i64 (n : Int)) ∧ w.heap.size < wx.heap.size) ∧ (wx.cell? ⟨w7.heap.size, 0, none⟩ = some (.slice (some ⟨bb, 0, none⟩) n n) ∧ wx.cell? ⟨w7.heap.size, 1, none⟩ = some (.slice mo (normA xs).length mc) ∧ w7.heap.size < wx.heap.size) ∧ Below w.heap.size w wx) := fun wx h => by
        have h78 := (h.block _ (lt_of_get z8)).trans z8
        have hb := btr bZ h
        have hb0 := btr H7.out.2.1 hb
        have hgg := HG.out wx hb0
        exact ⟨IsOv.keep H7.out.1 hb, H7.out.2.2.keep hb, ⟨hgg.1.1, hgg.1.2.2⟩, ⟨(cell_two h78).1, (cell_two h78).2.1, lt_of_get h78⟩, hgg.2.2⟩
      have HRL : Hid (∀ s v, v < n → livH (List.replicate n true) (R s v).2.1 = sideL s (normA xs) v ∧ RiseH (sideL s (normA xs) v) ∧ (sideL s (normA xs) v).length ≤ 65536) := fun s v hv => by
        have e := rows_all (IsOv.inv H7.out.1) H4.out.2.2 s hv
        have h1 := rowL_rise (IsOv.inv H7.out.1) s hv
        have h2 := IsOv.rowLe H7.out.1 s hv
        unfold rowL at h1 h2
        rw [e] at h1 h2
        exact ⟨e, h1, h2⟩
      have HAL : Hid (∀ v, v < n → aliveB n (List.replicate n true) (v : Int) = true) := fun v hv => aliveB_iff.2 ⟨v, rfl, hv, by simp [liv, hv]⟩
      have HOU : Hid (∀ v, v < n → ∀ wx, Below Z.heap.size Z wx → Calls Try.prog 11 #[.pointer (some ⟨pb, 0, none⟩), .int .i64 (v : Int)] wx fun e w' => ∃ so sc, e = .returned (.slice so (sideL false (normA xs) v).length sc) ∧ HasHs w' (.slice so (sideL false (normA xs) v).length sc) (sideL false (normA xs) v) ∧ RowS w' Z.heap.size (.slice so (sideL false (normA xs) v).length sc) (sideL false (normA xs) v).length ∧ Below wx.heap.size wx w') := fun v hv wx hx => by
        refine (IsOv.out (HZ.out wx hx).1 (v : Int)).mono ?_
        rintro e w' ⟨v', rfl, _, h2, h3⟩
        have h4 := h2 (HAL.out v hv)
        rw [Int.toNat_natCast, (HRL.out false v hv).1] at h4
        obtain ⟨so, sc, rfl⟩ := rowH_slice h4
        refine ⟨so, sc, rfl, hs_of_rowH h4, ⟨_, h4.1, ?_⟩, h3⟩
        rcases h4.2 with q | ⟨g', cap', cur', e', hb', r'⟩
        · exact Or.inl q
        · exact Or.inr ⟨g', cap', cur', e', Nat.le_trans hx.size hb', r'⟩
      have HIN : Hid (∀ v, v < n → ∀ wx, Below Z.heap.size Z wx → Calls Try.prog 12 #[.pointer (some ⟨pb, 0, none⟩), .int .i64 (v : Int)] wx fun e w' => ∃ so sc, e = .returned (.slice so (sideL true (normA xs) v).length sc) ∧ HasHs w' (.slice so (sideL true (normA xs) v).length sc) (sideL true (normA xs) v) ∧ RowS w' Z.heap.size (.slice so (sideL true (normA xs) v).length sc) (sideL true (normA xs) v).length ∧ Below wx.heap.size wx w') := fun v hv wx hx => by
        refine (IsOv.inn (HZ.out wx hx).1 (v : Int)).mono ?_
        rintro e w' ⟨v', rfl, _, h2, h3⟩
        have h4 := h2 (HAL.out v hv)
        rw [Int.toNat_natCast, (HRL.out true v hv).1] at h4
        obtain ⟨so, sc, rfl⟩ := rowH_slice h4
        refine ⟨so, sc, rfl, hs_of_rowH h4, ⟨_, h4.1, ?_⟩, h3⟩
        rcases h4.2 with q | ⟨g', cap', cur', e', hb', r'⟩
        · exact Or.inl q
        · exact Or.inr ⟨g', cap', cur', e', Nat.le_trans hx.size hb', r'⟩
      obtain ⟨_, _, ⟨c0, cs⟩, _, _⟩ := HZ.out Z (Below.refl _ _)
      clear hZ bZ z8
      go_wp2_with fail
      clear c0 cs
      go_loopw [57] (fun iv wr => ∃ v : Nat, v ≤ n ∧ iv = .int .i64 (v : Nat) ∧ Below Z.heap.size Z wr) (fun iv _ => n - (intOf iv).toNat)
      case atStart => exact ⟨0, Nat.zero_le _, rfl, Below.refl _ _⟩
      case round =>
        obtain ⟨v, hvn, rfl, hbw⟩ := hrel
        have HB8 : Hid (Below Z.heap.size Z wr) := hbw
        clear hbw
        by_cases hlt : v < n
        · have i1 : (v : Int) < (n : Int) := by omega
          have i2 : (0 : Int) ≤ (v : Int) := by omega
          have hou := HOU.out v hlt wr HB8.out
          have hin := HIN.out v hlt
          have hl1 := (HRL.out false v hlt).2.2
          have hl2 := (HRL.out true v hlt).2.2
          generalize sideL false (normA xs) v = LO at *
          generalize sideL true (normA xs) v = LI at *
          have HOUv : Hid (type_of% hou) := hou
          have HINv : Hid (type_of% hin) := hin
          clear hou hin
          go_wp2_with fail
          refine HOUv.out.mono ?_
          rintro e w8 ⟨sa, ca, rfl, _, hr8, hb8⟩
          have H8 : Hid (RowS w8 Z.heap.size (.slice sa LO.length ca) LO.length ∧ Below Z.heap.size Z w8) := ⟨hr8, btr HB8.out hb8⟩
          clear hr8 hb8
          go_wp2_with fail
          refine (HINv.out w8 H8.out.2).mono ?_
          rintro e w9 ⟨sb, cb, rfl, _, hr9, hb9⟩
          have H9 : Hid (Below Z.heap.size Z w9 ∧ RowS w9 Z.heap.size (.slice sa LO.length ca) LO.length ∧ RowS w9 Z.heap.size (.slice sb LI.length cb) LI.length) := ⟨btr H8.out.2 hb9, H8.out.1.keep hb9, hr9⟩
          clear hr9 hb9
          go_wp2_with fail
          go_loopw [68] (fun iv wr => ∃ k : Nat, k ≤ LO.length ∧ iv = .int .i64 (k : Nat) ∧ Below Z.heap.size Z wr ∧ RowS wr Z.heap.size (.slice sa LO.length ca) LO.length ∧ RowS wr Z.heap.size (.slice sb LI.length cb) LI.length) (fun iv _ => LO.length - (intOf iv).toNat)
          case atStart => exact ⟨0, Nat.zero_le _, rfl, H9.out⟩
          case round =>
            obtain ⟨k, hk, rfl, hbw, hra, hrb⟩ := hrel
            by_cases hkl : k < LO.length
            · obtain ⟨g', rfl, hg', gl, v0, v1, v2, d0, d1, d2, f0, f1, f2⟩ := hra.at hkl
              have HS : Hid (Below Z.heap.size Z (((wr.setCell ⟨g', k * 3, none⟩ (.int .i64 (-1))).setCell ⟨g', k * 3 + 1, none⟩ (.int .u64 0)).setCell ⟨g', k * 3 + 2, none⟩ (.int .i64 0)) ∧ RowS (((wr.setCell ⟨g', k * 3, none⟩ (.int .i64 (-1))).setCell ⟨g', k * 3 + 1, none⟩ (.int .u64 0)).setCell ⟨g', k * 3 + 2, none⟩ (.int .i64 0)) Z.heap.size (.slice (some ⟨g', 0, none⟩) LO.length ca) LO.length ∧ RowS (((wr.setCell ⟨g', k * 3, none⟩ (.int .i64 (-1))).setCell ⟨g', k * 3 + 1, none⟩ (.int .u64 0)).setCell ⟨g', k * 3 + 2, none⟩ (.int .i64 0)) Z.heap.size (.slice sb LI.length cb) LI.length) := ⟨((hbw.setCell (p := ⟨g', k * 3, none⟩) hg' _).setCell (p := ⟨g', k * 3 + 1, none⟩) hg' _).setCell (p := ⟨g', k * 3 + 2, none⟩) hg' _, ((hra.set _ _ _).set _ _ _).set _ _ _, ((hrb.set _ _ _).set _ _ _).set _ _ _⟩
              have j1 : (k : Int) < (LO.length : Int) := by omega
              have j2 : (0 : Int) ≤ (k : Int) := by omega
              clear hbw hra hrb
              go_wp2
              go_roundw
              case rel => exact ⟨k + 1, by omega, by go_num, HS.out⟩
              case measure => simp [intOf]; omega
            · obtain rfl : k = LO.length := by omega
              have HE : Hid (Below Z.heap.size Z wr ∧ RowS wr Z.heap.size (.slice sa LO.length ca) LO.length ∧ RowS wr Z.heap.size (.slice sb LI.length cb) LI.length) := ⟨hbw, hra, hrb⟩
              clear hbw hra hrb
              go_wp2_with fail
              go_loopw [78] (fun iv wr => ∃ k : Nat, k ≤ LI.length ∧ iv = .int .i64 (k : Nat) ∧ Below Z.heap.size Z wr ∧ RowS wr Z.heap.size (.slice sa LO.length ca) LO.length ∧ RowS wr Z.heap.size (.slice sb LI.length cb) LI.length) (fun iv _ => LI.length - (intOf iv).toNat)
              case atStart => exact ⟨0, Nat.zero_le _, rfl, HE.out⟩
              case round =>
                obtain ⟨k, hk, rfl, hbw, hra, hrb⟩ := hrel
                by_cases hkl : k < LI.length
                · obtain ⟨g', rfl, hg', gl, v0, v1, v2, d0, d1, d2, f0, f1, f2⟩ := hrb.at hkl
                  have HS : Hid (Below Z.heap.size Z (((wr.setCell ⟨g', k * 3, none⟩ (.int .i64 (-1))).setCell ⟨g', k * 3 + 1, none⟩ (.int .u64 0)).setCell ⟨g', k * 3 + 2, none⟩ (.int .i64 0)) ∧ RowS (((wr.setCell ⟨g', k * 3, none⟩ (.int .i64 (-1))).setCell ⟨g', k * 3 + 1, none⟩ (.int .u64 0)).setCell ⟨g', k * 3 + 2, none⟩ (.int .i64 0)) Z.heap.size (.slice sa LO.length ca) LO.length ∧ RowS (((wr.setCell ⟨g', k * 3, none⟩ (.int .i64 (-1))).setCell ⟨g', k * 3 + 1, none⟩ (.int .u64 0)).setCell ⟨g', k * 3 + 2, none⟩ (.int .i64 0)) Z.heap.size (.slice (some ⟨g', 0, none⟩) LI.length cb) LI.length) := ⟨((hbw.setCell (p := ⟨g', k * 3, none⟩) hg' _).setCell (p := ⟨g', k * 3 + 1, none⟩) hg' _).setCell (p := ⟨g', k * 3 + 2, none⟩) hg' _, ((hra.set _ _ _).set _ _ _).set _ _ _, ((hrb.set _ _ _).set _ _ _).set _ _ _⟩
                  have j1 : (k : Int) < (LI.length : Int) := by omega
                  have j2 : (0 : Int) ≤ (k : Int) := by omega
                  clear hbw hra hrb
                  go_wp2
                  go_roundw
                  case rel => exact ⟨k + 1, by omega, by go_num, HS.out⟩
                  case measure => simp [intOf]; omega
                · obtain rfl : k = LI.length := by omega
                  have HE : Hid (Below Z.heap.size Z wr ∧ RowS wr Z.heap.size (.slice sa LO.length ca) LO.length ∧ RowS wr Z.heap.size (.slice sb LI.length cb) LI.length) := ⟨hbw, hra, hrb⟩
                  clear hbw hra hrb
                  have bW : Below wr.heap.size wr (wr.alloc (.cells #[.int .i64 0, .int .u64 0, .int .i64 0, .int .i64 0, .int .u64 0, .int .i64 0] 43)) := (Below.refl _ wr).alloc (Nat.le_refl _) _
                  have HAP : Hid (RowS (wr.alloc (.cells #[.int .i64 0, .int .u64 0, .int .i64 0, .int .i64 0, .int .u64 0, .int .i64 0] 43)) Z.heap.size (.slice sa LO.length ca) LO.length ∧ HasHs (wr.alloc (.cells #[.int .i64 0, .int .u64 0, .int .i64 0, .int .i64 0, .int .u64 0, .int .i64 0] 43)) (.slice (some ⟨wr.heap.size, 0, none⟩) 2 2) [(0, 0, 0), (0, 0, 0)] ∧ Below Z.heap.size Z (wr.alloc (.cells #[.int .i64 0, .int .u64 0, .int .i64 0, .int .i64 0, .int .u64 0, .int .i64 0] 43))) := ⟨HE.out.2.1.keep bW, hs_two wr, btr HE.out.1 bW⟩
                  have i3 : (LO.length : Int) ≤ 65536 := by omega
                  clear bW
                  go_wp2_with (at_builtin; refine wpList_append_two rfl _ _ rfl Z.heap.size (.slice sa LO.length ca) LO.length rfl HAP.out.1 ⟨wr.heap.size, 0, none⟩ rfl HAP.out.2.1 hl1 HAP.out.2.2.size ?_; intro ta tc wz hgr; have HZZ : Hid (Below Z.heap.size Z wz) := HAP.out.1.grown HAP.out.2.2 HAP.out.2.2.size hgr; clear hgr)
                  go_roundw
                  case rel => exact ⟨v + 1, by omega, by go_num, HZZ.out⟩
                  case measure => simp [intOf]; omega
        · obtain rfl : v = n := by omega
          obtain ⟨_, _, ⟨c0, cs⟩, _, _⟩ := HZ.out wr HB8.out
          go_wp2_with fail
          clear c0 cs
          generalize wr = wP at *
          go_loopw [100] (fun iv wr => ∃ u : Nat, u ≤ v ∧ iv = .int .i64 (u : Nat) ∧ Below Z.heap.size Z wr) (fun iv _ => v - (intOf iv).toNat)
          case atStart => exact ⟨0, Nat.zero_le _, rfl, HB8.out⟩
          case round =>
            obtain ⟨u, hun, rfl, hbw⟩ := hrel
            have HB9 : Hid (Below Z.heap.size Z wr) := hbw
            clear hbw
            by_cases hlu : u < v
            · have i1 : (u : Int) < (v : Int) := by omega
              have i2 : (0 : Int) ≤ (u : Int) := by omega
              have hou := HOU.out u hlu
              have hin := HIN.out u hlu
              have hl1 := (HRL.out false u hlu).2.2
              have hl2 := (HRL.out true u hlu).2.2
              have hp1 := sideL_pw (HRL.out false u hlu).2.1
              have hp2 := sideL_pw (HRL.out true u hlu).2.1
              have hz26 : ((normA xs).map asA4).length ≤ 262144 := by
                rw [List.length_map]
                have := ((good_iff _ _).1 (good_norm HGE.out)).1
                omega
              have HRO : Hid (∀ wx, Below Z.heap.size Z wx → Calls Try.prog 21 #[.agg #[.slice (some ⟨bb, 0, none⟩) v v, .slice mo (normA xs).length mc], .int .i64 (u : Int)] wx fun e w' => ∃ so sc, e = .returned (.slice so (sideL false (normA xs) u).length sc) ∧ HasHs w' (.slice so (sideL false (normA xs) u).length sc) (sideL false (normA xs) u) ∧ Below wx.heap.size wx w') := fun wx hx => by
                have h := rOut11_calls (.slice (some ⟨bb, 0, none⟩) v v) mo mc ((normA xs).map asA4) (u : Int) wx (by rw [List.length_map]; exact (HZ.out wx hx).2.1) hz26 hp1.1 _ _ _ rfl
                rw [hp1.2, List.length_map] at h
                exact h
              have HRI : Hid (∀ wx, Below Z.heap.size Z wx → Calls Try.prog 22 #[.agg #[.slice (some ⟨bb, 0, none⟩) v v, .slice mo (normA xs).length mc], .int .i64 (u : Int)] wx fun e w' => ∃ so sc, e = .returned (.slice so (sideL true (normA xs) u).length sc) ∧ HasHs w' (.slice so (sideL true (normA xs) u).length sc) (sideL true (normA xs) u) ∧ Below wx.heap.size wx w') := fun wx hx => by
                have h := rIn11_calls (.slice (some ⟨bb, 0, none⟩) v v) mo mc ((normA xs).map asA4) (u : Int) wx (by rw [List.length_map]; exact (HZ.out wx hx).2.1) hz26 hp2.1 _ _ _ rfl
                rw [hp2.2, List.length_map] at h
                exact h
              clear hp1 hp2
              generalize sideL false (normA xs) u = LO at *
              generalize sideL true (normA xs) u = LI at *
              have HOUv : Hid (type_of% hou) := hou
              have HINv : Hid (type_of% hin) := hin
              obtain ⟨_, _, _, ⟨q0, q1, ql⟩, _⟩ := HZ.out wr HB9.out
              clear hou hin
              have HQ : Hid (∀ wx, Below Z.heap.size Z wx → wx.cell? ⟨w7.heap.size, 0, none⟩ = some (.slice (some ⟨bb, 0, none⟩) v v) ∧ wx.cell? ⟨w7.heap.size, 1, none⟩ = some (.slice mo (normA xs).length mc)) := fun wx hx => ⟨(HZ.out wx hx).2.2.2.1.1, (HZ.out wx hx).2.2.2.1.2.1⟩
              go_wp2_with fail
              go_region_held3 (fun w' => w'.cell? ⟨w7.heap.size, 0, none⟩ = some (.slice (some ⟨bb, 0, none⟩) v v) ∧ w'.cell? ⟨w7.heap.size, 1, none⟩ = some (.slice mo (normA xs).length mc)) (go_keep) (first
                | (go_at_call 20; refine (same11_yes _ _ _ _ LI _ Y5.out.2.1 Y5.out.2.2 (by omega)).mono ?_; rintro e y6 ⟨rfl, hy⟩; have Y6 : Hid (Below Z.heap.size Z y6) := btr Y5.out.1 hy; obtain ⟨z6, z6'⟩ := HQ.out y6 Y6.out; clear hy)
                | (go_at_call 22; refine (HRI.out _ Y4.out.1).mono ?_; rintro e y5 ⟨s5, t5, rfl, hh, hy⟩; have Y5 : Hid (Below Z.heap.size Z y5 ∧ HasHs y5 (.slice s4 LI.length t4) LI ∧ HasHs y5 (.slice s5 LI.length t5) LI) := ⟨btr Y4.out.1 hy, Y4.out.2.keep hy, hh⟩; obtain ⟨z5, z5'⟩ := HQ.out y5 Y5.out.1; clear hy hh)
                | (go_at_call 12; refine (HINv.out _ Y3.out).mono ?_; rintro e y4 ⟨s4, t4, rfl, hh, _, hy⟩; have Y4 : Hid (Below Z.heap.size Z y4 ∧ HasHs y4 (.slice s4 LI.length t4) LI) := ⟨btr Y3.out hy, hh⟩; obtain ⟨z4, z4'⟩ := HQ.out y4 Y4.out.1; clear hy hh)
                | (go_at_call 20; refine (same11_yes _ _ _ _ LO _ Y2.out.2.1 Y2.out.2.2 (by omega)).mono ?_; rintro e y3 ⟨rfl, hy⟩; have Y3 : Hid (Below Z.heap.size Z y3) := btr Y2.out.1 hy; obtain ⟨z3, z3'⟩ := HQ.out y3 Y3.out; clear hy)
                | (go_at_call 21; refine (HRO.out _ Y1.out.1).mono ?_; rintro e y2 ⟨s2, t2, rfl, hh, hy⟩; have Y2 : Hid (Below Z.heap.size Z y2 ∧ HasHs y2 (.slice s1 LO.length t1) LO ∧ HasHs y2 (.slice s2 LO.length t2) LO) := ⟨btr Y1.out.1 hy, Y1.out.2.keep hy, hh⟩; obtain ⟨z2, z2'⟩ := HQ.out y2 Y2.out.1; clear hy hh)
                | (go_at_call 11; refine (HOUv.out _ HB9.out.drew).mono ?_; rintro e y1 ⟨s1, t1, rfl, hh, _, hy⟩; have Y1 : Hid (Below Z.heap.size Z y1 ∧ HasHs y1 (.slice s1 LO.length t1) LO) := ⟨btr HB9.out.drew hy, hh⟩; obtain ⟨z1, z1'⟩ := HQ.out y1 Y1.out.1; clear hy hh))
              go_wp2
              go_roundw
              case rel => exact ⟨u + 1, by omega, by go_num, Y6.out⟩
              case measure => simp [intOf]; omega
            · obtain rfl : u = v := by omega
              go_wp2
              go_ret
              exact ⟨rfl, (HZ.out wr HB9.out).2.2.2.2⟩
end Go.Proofs.Ytpaamcapopnhoaa
