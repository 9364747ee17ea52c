/- What is needed without bounds, with none, with any. The document's Out once more: its row lies in memory of its own. (As in the overlay's texts.) Contract. Contract, called. -/
import Derived.Test.YtbkclhaonbjobaaGreatQzX
import Derived.Test.YtbkclhaonbjobaaGreatWz4
import Derived.Maps.AppendAt
import Derived.Test.YtbkclhaonbjobaaGreatQsX
namespace Go.Proofs.YtbkclhaonbjobaaGreat.Wt
open Go Go.RowKit Go.Extern Go.Deep

theorem witL_is {n : Nat} {Z : List (Int × Int × Int)} {hops se : Int} {W : List S3} {a1 : Int} (h : ∀ x ∈ W, x.1 = a1) : witL n Z hops se W = W.filter (seenB n Z a1.toNat hops se (mostS W)) := by
  cases W with
  | nil => rfl
  | cons x r =>
    rw [← h x (by simp)]
    rfl
theorem dearL_from {n : Nat} {bs : List Bool} {R : Bool → Nat → Rw} {i : H3} {out : List H3} : ∀ x ∈ dearL n bs R i out, x.1 = i.1 := fun x hx => by
  unfold dearL at hx
  obtain ⟨y, _, rfl⟩ := List.mem_map.1 hx
  rfl
section
variable {n : Nat} {bs : List Bool} {R : Bool → Nat → Rw} {zs : List A4} {v : Int}
theorem dearL_mem {i : H3} {out : List H3} {x : S3} (hx : x ∈ dearL n bs R i out) : ∃ y ∈ out, dearB n bs R i y = true ∧ x = wayOf i y := by
  unfold dearL at hx
  obtain ⟨y, hy, rfl⟩ := List.mem_map.1 hx
  obtain ⟨h1, h2⟩ := List.mem_filter.1 hy
  exact ⟨y, h1, h2, rfl⟩
/-- the distances without the node. -/
def distX (n : Nat) (bs : List Bool) (zs : List A4) (v : Int) : Dt.Mx := Dt.dist n (liv (bsX n bs v)) ((zsX n bs zs v).map Dt.as3)
def walkB (n : Nat) (bs : List Bool) (zs : List A4) (v : Int) (i h : H3) : Bool := decide (h.1 ≠ i.1) && decide (i.2.1 + h.2.1 ≤ 140737488355328) && decide (i.2.1 + h.2.1 < distX n bs zs v i.1.toNat h.1.toNat)
def walkL (n : Nat) (bs : List Bool) (zs : List A4) (v : Int) (i : H3) (out : List H3) : List S3 := (out.filter (walkB n bs zs v i)).map (wayOf i)
theorem hasA_iff (ht : Tied n bs R zs) (hi : OvInv n bs R) {a : S3} (h : hasA n bs R a = true) : ∃ z ∈ zs, z.1 = a.1 ∧ z.2.1 = a.2.1 ∧ z.2.2.1 ≤ a.2.2 := by
  unfold hasA at h
  rw [ht.weight hi] at h
  cases hf : findA zs a.1 a.2.1 with
  | none => rw [hf] at h; cases h
  | some z =>
    rw [hf] at h
    simp only [Option.map_some, decide_eq_true_eq] at h
    unfold findA at hf
    have h1 := List.mem_of_find?_eq_some hf
    have h2 := List.find?_some hf
    simp only [Bool.and_eq_true, beq_iff_eq] at h2
    exact ⟨z, h1, h2.1, h2.2, h⟩
end
/-- how far one list has been met in another. -/
def metN (ws : List S3) : Nat → List S3 → Nat
  | i, [] => i
  | i, s :: r => metN ws (if ws[i]? = some s then i + 1 else i) r
end Go.Proofs.YtbkclhaonbjobaaGreat.Wt

namespace Go.Proofs.YtbkclhaonbjobaaGreat
open Go.RowKit Go.Extern Go.Sort

attribute [local go_sem] Oper.semAt_some

section
variable {PX : Nat → Option Obj} {w : World} {B0 pb n : Nat} {bs : List Bool} {R : Bool → Nat → Rw} {zs : List A4}
end
end Go.Proofs.YtbkclhaonbjobaaGreat
namespace Go.Proofs.YtbkclhaonbjobaaGreat.Wt
open Go Go.RowKit Go.Extern Go.Deep

attribute [local go_sem] Oper.semAt_some

/-- two growing rows beside memory that stays. -/
structure TwoG (B P Q : Nat) (w0 wq wr : World) (av : Value) (A : List S3) (wv : Value) (W : List S3) : Prop where
  rowA : wr.ownsRow B 67 3 av A.length (flatS A)
  rowW : wr.ownsRow B 67 3 wv W.length (flatS W)
  outA : ∀ g, av.ownBlock = some g → g < P ∨ Q ≤ g
  outW : ∀ g, wv.ownBlock = some g → g < P ∨ Q ≤ g
  ne : ∀ g, av.ownBlock = some g → wv.ownBlock ≠ some g
  below : Below B w0 wr
  base : B ≤ w0.heap.size
  keep : ∀ j, P ≤ j → j < Q → wr.heap[j]? = wq.heap[j]?
  size : Q ≤ wr.heap.size
section
variable {B P Q : Nat} {w0 wq wr wx w' : World} {av wv v' : Value} {A W : List S3} {y : S3}
end
end Go.Proofs.YtbkclhaonbjobaaGreat.Wt

namespace Go.Proofs.YtbkclhaonbjobaaGreat.Wt
open Go Go.RowKit Go.Extern Go.Deep

attribute [local go_sem] Oper.semAt_some

/-- an overlay with its arcs. -/
def OvT (PX : Nat → Option Obj) (B0 : Nat) (w : World) (pb n : Nat) (bs : List Bool) (R : Bool → Nat → Rw) (zs : List A4) : Prop := IsOv PX B0 w pb n bs R ((aliveN n bs : Nat) : Int) ((zs.length : Nat) : Int) ∧ Tied n bs R zs
/-- does an arc's weight, where there is one, not surpass it? -/
def hasQ (ow : Option Int) (s : Int) : Bool := match ow with
  | some k => decide (k ≤ s)
  | none => false
/-- what a Put that is right makes of the arcs. -/
def putW (zs : List A4) (a : A4) : List A4 := if hasQ (wtA zs a.1 a.2.1) a.2.2.1 then zs else putZ zs a
theorem putW_len (zs : List A4) (a : A4) : (putW zs a).length ≤ zs.length + 1 := by
  unfold putW
  split
  · omega
  · exact putZ_len _
theorem ZB.putW {zs : List A4} (h : ZB zs) {a : A4} (ha : 0 ≤ a.2.2.1 ∧ a.2.2.1 ≤ 140737488355328) : ZB (Go.Proofs.YtbkclhaonbjobaaGreat.Wt.putW zs a) := by
  unfold Go.Proofs.YtbkclhaonbjobaaGreat.Wt.putW
  split
  · exact h
  · exact h.put ha
/-- the shortcuts put in one by one. -/
def putsZ (v : Int) (zs : List A4) (L : List S3) : List A4 := L.foldl (fun z s => putW z (s.1, s.2.1, s.2.2, v)) zs
theorem putsZ_succ {v : Int} {zs : List A4} {L : List S3} {k : Nat} {s : S3} (h : L[k]? = some s) : putsZ v zs (L.take (k + 1)) = putW (putsZ v zs (L.take k)) (s.1, s.2.1, s.2.2, v) := by
  unfold putsZ
  rw [List.take_add_one, h, List.foldl_append]
  rfl
theorem putsZ_len (v : Int) : ∀ (L : List S3) (zs : List A4), (putsZ v zs L).length ≤ zs.length + L.length
  | [], _ => Nat.le_refl _
  | s :: r, zs => by
    have h1 := putsZ_len v r (putW zs (s.1, s.2.1, s.2.2, v))
    have h2 := putW_len zs (s.1, s.2.1, s.2.2, v)
    show (putsZ v (putW zs (s.1, s.2.1, s.2.2, v)) r).length ≤ _
    rw [List.length_cons]
    omega
theorem putsZ_zb (v : Int) : ∀ (L : List S3) (zs : List A4), ZB zs → (∀ s ∈ L, 0 ≤ s.2.2 ∧ s.2.2 ≤ 140737488355328) → ZB (putsZ v zs L)
  | [], _, h, _ => h
  | s :: r, zs, h, hs => putsZ_zb v r _ (h.putW (a := (s.1, s.2.1, s.2.2, v)) (hs s (by simp))) fun x hx => hs x (by simp [hx])
section
variable {PX PY : Nat → Option Obj} {w w' : World} {B0 pb n : Nat} {bs : List Bool} {R : Bool → Nat → Rw} {zs : List A4} {nodes arcs : Int}
theorem IsOv.narrow (h : IsOv PY B0 w pb n bs R nodes arcs) (hw : Wider PX PY) : IsOv PX B0 w pb n bs R nodes arcs := by
  obtain ⟨B, ab, sb, h0, hk, h2⟩ := h
  exact ⟨B, ab, sb, h0, ⟨hk.box, hk.al, hk.row, hk.bl, hk.big, hk.own, hk.low, hk.two, fun X o hX => hk.prot X o (hw X o hX), hk.apart⟩, h2⟩
theorem ovt_put (h : OvT PX B0 w pb n bs R zs) (hz : zs.length ≤ 200000) (x y wt via : Int) (hc : putErr n bs x y wt via = 0) :
    Calls Tryz.prog 30 #[.pointer (some ⟨pb, 0, none⟩), .int .i64 x, .int .i64 y, .int .u64 wt, .int .i64 via] w fun e w' => ∃ r0 R', e = .returned (.tuple #[r0, .nilIface]) ∧ OvT PX B0 w' pb n bs R' (putW zs (x, y, wt, via)) ∧ Below B0 w w' := by
  have hs := h.1.size
  have hwt : weightM n bs R x y = wtA zs x y := h.2.weight h.1.inv x y
  refine (h.1.put x y wt via (by omega)).mono ?_
  rintro e w' (⟨c, h0, h1, _⟩ | ⟨k, h1, h2, rfl, hb⟩ | ⟨a, b, v1, v2, rfl, rfl, h3, ⟨han, hbn, la, lb⟩, rfl, hO, hb⟩)
  · exact absurd (h1.symm.trans hc) h0
  · refine ⟨_, R, rfl, ?_, hb.mono hs⟩
    have e : putW zs (x, y, wt, via) = zs := by
      unfold putW
      rw [if_pos]
      show hasQ (wtA zs x y) wt = true
      rw [← hwt, h1]
      exact decide_eq_true h2
    rw [e]
    exact ⟨h.1.keep hb, h.2⟩
  · have hab : a ≠ b := by
      obtain ⟨a', b', e1, e2, _, _, h4, _, _⟩ := putErr_zero hc
      intro e
      apply h4
      omega
    have ht := h.2.put h.1.inv han hbn hab la lb wt via v1 v2
    have e1 := ht.arcs hO.inv
    have e2 := arcSum_put h.1.inv han hbn la lb wt via v1 v2
    have e3 := h.2.arcs h.1.inv
    have e : putW zs ((a : Int), (b : Int), wt, via) = putZ zs ((a : Int), (b : Int), wt, via) := by
      unfold putW
      rw [if_neg]
      show ¬ hasQ (wtA zs (a : Int) (b : Int)) wt = true
      rw [← hwt]
      cases hw : weightM n bs R (a : Int) (b : Int) with
      | none => simp [hasQ]
      | some k =>
        have := h3 k hw
        simp only [hasQ, decide_eq_true_eq]
        omega
    rw [e]
    refine ⟨_, _, rfl, ⟨?_, ht⟩, hb⟩
    have e4 : ((zs.length : Nat) : Int) + (if (weightM n bs R (a : Int) (b : Int)).isNone then 1 else 0) = (((putZ zs ((a : Int), (b : Int), wt, via)).length : Nat) : Int) := by
      rw [← e1, e2, e3]
      split <;> simp
    rw [← e4]
    exact hO
theorem ovt_remove (h : OvT PX B0 w pb n bs R zs) (hz : zs.length ≤ 200000) (x : Int) (hx : aliveB n bs x = true) :
    Calls Tryz.prog 29 #[.pointer (some ⟨pb, 0, none⟩), .int .i64 x] w fun e w' => ∃ R', e = .returned .nilIface ∧ OvT PX B0 w' pb n (bs.set x.toNat false) R' (remZ zs x) ∧ Below B0 w w' := by
  have hA : aliveN n bs ≤ n * 1 := sumN_le n _ 1 (fun i _ => by split <;> omega)
  have hn := h.1.bl.2
  refine (h.1.remove x (by omega) (by omega)).mono ?_
  rintro e w' (⟨h1, _⟩ | ⟨_, u, R', rfl, hu, lu, rfl, hO, hL, hb⟩)
  · rw [hx] at h1
    cases h1
  · have ht := h.2.remove hu hL
    have e1 := ht.arcs hO.inv
    have e2 := arcSum_remove h.1.inv hu lu hL
    have e3 := h.2.arcs h.1.inv
    have e4 := aliveN_remove hu lu
    rw [Int.toNat_natCast]
    refine ⟨R', rfl, ⟨?_, ht⟩, hb⟩
    have e5 : ((zs.length : Nat) : Int) - ((livH bs (R false u).2.1).length : Int) - ((livH bs (R true u).2.1).length : Int) = (((remZ zs (u : Int)).length : Nat) : Int) := by omega
    have e6 : ((aliveN n bs : Nat) : Int) - 1 = ((aliveN n (bs.set u false) : Nat) : Int) := by omega
    rw [← e5, ← e6]
    exact hO
end
end Go.Proofs.YtbkclhaonbjobaaGreat.Wt

namespace Go.Proofs.YtbkclhaonbjobaaGreat.Wt
open Go Go.RowKit Go.Extern Go.Deep

attribute [local go_sem] Oper.semAt_some

theorem witL_sub {n : Nat} {Z : List (Int × Int × Int)} {hops se : Int} {W : List S3} {s : S3} (h : s ∈ witL n Z hops se W) : s ∈ W := by
  cases W with
  | nil => exact h
  | cons a r => exact (List.mem_filter.1 h).1
theorem need_ok {n : Nat} {bs : List Bool} {R : Bool → Nat → Rw} {zs : List A4} (ht : Tied n bs R zs) (hi : OvInv n bs R) (hb : ZB zs) {v hp sp : Int} {s : S3} (hs : s ∈ needL n bs R v hp sp) : (aliveB n bs s.1 = true ∧ s.1 ≠ v) ∧ (aliveB n bs s.2.1 = true ∧ s.2.1 ≠ v) ∧ s.1 ≠ s.2.1 ∧ 0 ≤ s.2.2 ∧ s.2.2 ≤ 140737488355328 := by
  unfold needL at hs
  obtain ⟨i, hi1, hs⟩ := List.mem_flatMap.1 hs
  unfold needI at hs
  have hd := witL_sub hs
  obtain ⟨hiw, hia, hiv⟩ := half_ok ht hi hb hi1
  obtain ⟨q1, q2, q3, q4⟩ := dear_ok ht hi hb hiw.1 hd
  unfold dearL at hd
  obtain ⟨y, hy, rfl⟩ := List.mem_map.1 hd
  obtain ⟨hy, hyd⟩ := List.mem_filter.1 hy
  obtain ⟨_, hya, hyv⟩ := half_ok ht hi hb hy
  unfold dearB at hyd
  simp only [Bool.and_eq_true, decide_eq_true_eq] at hyd
  exact ⟨⟨hia, hiv⟩, ⟨hya, hyv⟩, fun e => hyd.1.1 e.symm, q3, q4⟩
theorem alive_set {n : Nat} {bs : List Bool} {x : Int} {v : Nat} (h : aliveB n bs x = true) (hx : x ≠ (v : Int)) : aliveB n (bs.set v false) x = true := by
  obtain ⟨u, rfl, hu, hl⟩ := aliveB_iff.1 h
  exact aliveB_iff.2 ⟨u, rfl, hu, by rw [liv_set, if_neg (by omega)]; exact hl⟩
theorem gone_set {n : Nat} {bs : List Bool} {v : Nat} (hl : bs.length = n) (hv : v < n) : goneB n (bs.set v false) (v : Int) = true := by
  unfold goneB isN
  rw [Int.toNat_natCast, List.getElem?_set_self (by omega)]
  simp
  omega
theorem putErr_short {n : Nat} {bs : List Bool} {v : Nat} (hl : bs.length = n) (hv : v < n) {s : S3} (h : (aliveB n bs s.1 = true ∧ s.1 ≠ (v : Int)) ∧ (aliveB n bs s.2.1 = true ∧ s.2.1 ≠ (v : Int)) ∧ s.1 ≠ s.2.1 ∧ 0 ≤ s.2.2 ∧ s.2.2 ≤ 140737488355328) : putErr n (bs.set v false) s.1 s.2.1 s.2.2 (v : Int) = 0 := by
  obtain ⟨⟨h1, h2⟩, ⟨h3, h4⟩, h5, h6, h7⟩ := h
  unfold putErr
  rw [if_pos ⟨alive_set h1 h2, alive_set h3 h4⟩, if_neg h5, if_neg (by omega), if_neg (by omega), if_pos (gone_set hl hv)]
/-- what a contraction makes of the arcs. -/
def contZ (v : Int) (zs : List A4) (L : List S3) : List A4 := putsZ v (remZ zs v) L
theorem needL_len {n : Nat} {bs : List Bool} {R : Bool → Nat → Rw} (hi : OvInv n bs R) (hn : n ≤ 12) (v hp sp : Int) : (needL n bs R v hp sp).length ≤ 144 := by
  have h1 := flat_len (needI n bs R v hp sp) n (outM n bs R true v) (needI_len hi _ _ _)
  have h2 := Nat.mul_le_mul (Nat.le_trans (half_few hi true v) hn) hn
  unfold needL
  omega
section
variable {PX : Nat → Option Obj} {w : World} {B0 pb n : Nat} {bs : List Bool} {R : Bool → Nat → Rw} {zs : List A4}
set_option maxRecDepth 100000 in
set_option maxHeartbeats 8000000 in
theorem cont_calls (h : OvT PX B0 w pb n bs R zs) (hz : ZB zs) (hn : n ≤ 12) (hl : zs.length ≤ 190000) (v o0 o1 o2 o3 o4 : Int) :
    Calls Tryz.prog 10 #[.pointer (some ⟨pb, 0, none⟩), .int .i64 v, .agg #[.int .i64 o0, .int .i64 o1, .int .i64 o2, .int .i64 o3, .int .i64 o4]] w fun e w' =>
      (aliveB n bs v = false ∧ e = .returned (.tuple #[.slice none 0 0, .iface 104 (.int .i64 7)]) ∧ OvT PX B0 w' pb n bs R zs ∧ Below w.heap.size w w') ∨
      (aliveB n bs v = true ∧ ∃ so sc R', e = .returned (.tuple #[.slice so (needL n bs R v (min (max o0 0) 1048576) (min (max o1 0) 1048576)).length sc, .nilIface]) ∧ HasSs w' (.slice so (needL n bs R v (min (max o0 0) 1048576) (min (max o1 0) 1048576)).length sc) (needL n bs R v (min (max o0 0) 1048576) (min (max o1 0) 1048576)) ∧ OvT PX B0 w' pb n (bs.set v.toNat false) R' (contZ v zs (needL n bs R v (min (max o0 0) 1048576) (min (max o1 0) 1048576))) ∧ Below B0 w w') := by
  obtain ⟨W0, hW0⟩ : ∃ W0, w.alloc (optObj o0 o1 o2 o3 o4) = W0 := ⟨_, rfl⟩
  have HW0 : Hid (w.alloc (.cells #[.int .i64 o0, .int .i64 o1, .int .i64 o2, .int .i64 o3, .int .i64 o4] 27) = W0) := hW0
  have hB0 : Below w.heap.size w W0 := by rw [← hW0]; exact bel_one _ _
  have hk0 : W0.heap[w.heap.size]? = some (optObj o0 o1 o2 o3 o4) := by rw [← hW0]; exact heap_new _ _
  have hne := need_calls (h.1.keep hB0) h.2 hz (by omega) v o0 o1 o2 o3 o4
  have hlen := needL_len h.1.inv hn v (min (max o0 0) 1048576) (min (max o1 0) 1048576)
  have hok : ∀ s ∈ needL n bs R v (min (max o0 0) 1048576) (min (max o1 0) 1048576), _ := fun s hs => need_ok h.2 h.1.inv hz hs
  obtain ⟨NL, hNL⟩ : ∃ NL, needL n bs R v (min (max o0 0) 1048576) (min (max o1 0) 1048576) = NL := ⟨_, rfl⟩
  rw [hNL] at hne hlen hok ⊢
  have HNE : Hid (type_of% hne) := hne
  have HOK : Hid ((∀ s ∈ NL, (aliveB n bs s.1 = true ∧ s.1 ≠ v) ∧ (aliveB n bs s.2.1 = true ∧ s.2.1 ≠ v) ∧ s.1 ≠ s.2.1 ∧ 0 ≤ s.2.2 ∧ s.2.2 ≤ 140737488355328) ∧ NL.length ≤ 144) := ⟨hok, hlen⟩
  have HH : Hid (OvT PX B0 w pb n bs R zs ∧ ZB zs ∧ n ≤ 12 ∧ zs.length ≤ 190000 ∧ Below w.heap.size w W0 ∧ B0 ≤ w.heap.size) := ⟨h, hz, hn, hl, hB0, h.1.size⟩
  obtain ⟨c0, c1, cs⟩ := opt_cells hk0
  obtain ⟨c2, c3, c4⟩ := opt_all hk0
  clear hW0 hB0 hk0 hne hlen hok hNL h hz hl
  go_enter Tryz.func10, Tryz.ntmps10
  go_upto_region 1 with fail
  rw [HW0.out]
  go_wp2_with fail
  refine HNE.out.mono ?_
  clear c0 c1 c2 c3 c4 cs
  rintro e w1 ⟨hb1, ⟨hal, rfl⟩ | ⟨hal, so, sc, rfl, ho1⟩⟩
  · have HZ : Hid (aliveB n bs v = false ∧ OvT PX B0 w1 pb n bs R zs ∧ Below w.heap.size w w1) := ⟨hal, ⟨HH.out.1.1.keep (btr HH.out.2.2.2.2.1 hb1), HH.out.1.2⟩, btr HH.out.2.2.2.2.1 hb1⟩
    clear hal hb1 HNE
    go_wp2
    go_ret2
    exact Or.inl ⟨HZ.out.1, rfl, HZ.out.2.1, HZ.out.2.2⟩
  · obtain ⟨u, rfl, hun, hul⟩ := aliveB_iff.1 hal
    have hbw1 := btr HH.out.2.2.2.2.1 hb1
    obtain ⟨hgd, hwd⟩ := HH.out.1.1.wrap hbw1
    obtain ⟨PY, hPY⟩ : ∃ PY, wrapP PX w.heap.size w1 = PY := ⟨_, rfl⟩
    rw [hPY] at hgd hwd
    have HROW : Hid (∀ wx, Lies PY wx → HasSs wx (.slice so NL.length sc) NL) := fun wx hx => by
      refine ss_of_row (row_keep9 ho1 fun g hg => ?_)
      obtain ⟨l1, l2⟩ := ho1.lt g hg
      have hgg : PY g = w1.heap[g]? := by rw [← hPY]; unfold wrapP; rw [if_pos (by have := HH.out.2.2.2.2.1.size; omega)]
      obtain ⟨o, ho⟩ : ∃ o, w1.heap[g]? = some o := ⟨w1.heap[g], Array.getElem?_eq_getElem l2⟩
      rw [ho]
      exact hx g o (by rw [hgg, ho])
    have HWD : Hid (Wider PX PY ∧ u < n ∧ liv bs u = true ∧ aliveB n bs (u : Int) = true ∧ bs.length = n ∧ Below B0 w w1) := ⟨hwd, hun, hul, hal, HH.out.1.1.bl.1, hbw1.mono HH.out.2.2.2.2.2⟩
    have hrm := ovt_remove (PX := PY) ⟨hgd, HH.out.1.2⟩ (by have := HH.out.2.2.2.1; omega) (u : Int) hal
    rw [Int.toNat_natCast] at hrm
    have HRM : Hid (type_of% hrm) := hrm
    clear hal hun hul hb1 ho1 hbw1 hgd hwd hPY hrm HNE
    go_wp2_with fail
    refine HRM.out.mono ?_
    rintro e w2 ⟨R2, rfl, hov2, hb2⟩
    have H2 : Hid (OvT PY B0 w2 pb n (bs.set u false) R2 (remZ zs (u : Int)) ∧ Below B0 w w2) := ⟨hov2, HWD.out.2.2.2.2.2.trans hb2⟩
    clear hov2 hb2 HRM
    go_wp2_with fail
    go_loopw [33] (fun iv wr => ∃ (k : Nat) (R' : Bool → Nat → Rw), k ≤ NL.length ∧ iv = .int .i64 k ∧ OvT PY B0 wr pb n (bs.set u false) R' (putsZ (u : Int) (remZ zs (u : Int)) (NL.take k)) ∧ Below B0 w wr) (fun iv _ => NL.length - (intOf iv).toNat)
    case atStart => exact ⟨0, R2, Nat.zero_le _, rfl, H2.out.1, H2.out.2⟩
    case round =>
      obtain ⟨k, R', hk, rfl, hov, hb⟩ := hrel
      have HR : Hid (OvT PY B0 wr pb n (bs.set u false) R' (putsZ (u : Int) (remZ zs (u : Int)) (NL.take k)) ∧ Below B0 w wr) := ⟨hov, hb⟩
      clear hov hb
      by_cases hlt : k < NL.length
      · obtain ⟨s, hs⟩ : ∃ s, NL[k]? = some s := ⟨NL[k], List.getElem?_eq_getElem hlt⟩
        obtain ⟨b, off, rfl, bl, p0, p1, p2⟩ := (HROW.out wr HR.out.1.1.lies).at hs
        have hsk := HOK.out.1 s (List.mem_of_getElem? hs)
        have hpe := putErr_short HWD.out.2.2.2.2.1 HWD.out.2.1 hsk
        have HSU : Hid (type_of% (putsZ_succ (v := (u : Int)) (zs := remZ zs (u : Int)) hs)) := putsZ_succ (v := (u : Int)) (zs := remZ zs (u : Int)) hs
        have hln : (putsZ (u : Int) (remZ zs (u : Int)) (NL.take k)).length ≤ 200000 := by
          have h1 := putsZ_len (u : Int) (NL.take k) (remZ zs (u : Int))
          have h2 := remZ_len zs (u : Int)
          have h3 : (NL.take k).length ≤ 144 := by rw [List.length_take]; have := HOK.out.2; omega
          have h4 := HH.out.2.2.2.1
          omega
        obtain ⟨s0, s1, s2⟩ := s
        simp only at p0 p1 p2 hpe HSU
        obtain ⟨W3, hW3⟩ : ∃ W3, wr.alloc (.cells #[.int .i64 s0, .int .i64 s1, .int .u64 s2] 89) = W3 := ⟨_, rfl⟩
        have HW3 : Hid (wr.alloc (.cells #[.int .i64 s0, .int .i64 s1, .int .u64 s2] 89) = W3) := hW3
        have hb3 : Below wr.heap.size wr W3 := by rw [← hW3]; exact bel_one _ _
        have k3 : W3.heap[wr.heap.size]? = some (.cells #[.int .i64 s0, .int .i64 s1, .int .u64 s2] 89) := by rw [← hW3]; exact heap_new _ _
        have e0 : W3.cell? ⟨wr.heap.size, 0, none⟩ = some (.int .i64 s0) := by simp [World.cell?, k3]
        have e1 : W3.cell? ⟨wr.heap.size, 1, none⟩ = some (.int .i64 s1) := by simp [World.cell?, k3]
        have e2 : W3.cell? ⟨wr.heap.size, 2, none⟩ = some (.int .u64 s2) := by simp [World.cell?, k3]
        have es := lt_of_get k3
        have HPU : Hid (type_of% (ovt_put ⟨HR.out.1.1.keep hb3, HR.out.1.2⟩ hln s0 s1 s2 (u : Int) hpe)) := ovt_put ⟨HR.out.1.1.keep hb3, HR.out.1.2⟩ hln s0 s1 s2 (u : Int) hpe
        have HB3 : Hid (Below B0 w W3) := HR.out.2.trans (hb3.mono HR.out.1.1.size)
        have i1 : (k : Int) < (NL.length : Int) := by omega
        have i2 : (0 : Int) ≤ (k : Int) := by omega
        have hNL := HOK.out.2
        clear hs hsk hpe hln hW3 hb3 k3
        go_upto_region 10 with fail
        rw [HW3.out]
        clear p0 p1 p2 bl
        go_wp2_with fail
        refine HPU.out.mono ?_
        rintro e w4 ⟨r0, R4, rfl, hov4, hb4⟩
        have H4 : Hid (OvT PY B0 w4 pb n (bs.set u false) R4 (putsZ (u : Int) (remZ zs (u : Int)) (NL.take (k + 1))) ∧ Below B0 w w4) := ⟨by rw [HSU.out]; exact hov4, HB3.out.trans hb4⟩
        clear hov4 hb4 e0 e1 e2 es HPU
        go_wp2
        go_roundw
        case rel => exact ⟨k + 1, R4, by omega, by go_num, H4.out.1, H4.out.2⟩
        case measure => simp [intOf]; omega
      · obtain rfl : k = NL.length := by omega
        rw [List.take_length] at HR
        have HZ : Hid (HasSs wr (.slice so NL.length sc) NL ∧ OvT PX B0 wr pb n (bs.set u false) R' (contZ (u : Int) zs NL) ∧ Below B0 w wr) := ⟨HROW.out wr HR.out.1.1.lies, ⟨IsOv.narrow HR.out.1.1 HWD.out.1, HR.out.1.2⟩, HR.out.2⟩
        go_wp2
        go_ret2
        exact Or.inr ⟨HWD.out.2.2.2.1, so, sc, R', rfl, HZ.out.1, by rw [Int.toNat_natCast]; exact HZ.out.2.1, HZ.out.2.2⟩
end
end Go.Proofs.YtbkclhaonbjobaaGreat.Wt
