/- eachStart, whoever takes what is needed. Needed, Diff. Needed and Diff, called. of, Same, the law's own graph, awake. -/
import Derived.Test.YtbkclhaonbjobaaGreatQtX
import Derived.Test.YtbkclhaonbjobaaGreatQsX
import Derived.Test.YtbkclhaonbjobaaGreatQfX
import Derived.Laws.AppendOwnNone
import Derived.Test.YtbkclhaonbjobaaGreatQlX
import Derived.BigQuiet
namespace Go.Proofs.YtbkclhaonbjobaaGreat.Wt
open Go Go.RowKit Go.Extern Go.Deep

attribute [local go_sem] Oper.semAt_some

/-- all but one block, and what has been laid since, is as it was. -/
structure Frm (xb : Nat) (T : TypeId) (w0 w : World) : Prop where
  os : w.os = w0.os
  tape : w.tape = w0.tape
  output : w.output = w0.output
  size : w0.heap.size ≤ w.heap.size
  block : ∀ j, j < w0.heap.size → j ≠ xb → w.heap[j]? = w0.heap[j]?
  box : ∃ v, w.heap[xb]? = some (.cells #[v] T (0, 0))
theorem Frm.step {xb : Nat} {T : TypeId} {w0 w w' : World} (h : Frm xb T w0 w) (hb : Below w.heap.size w w') : Frm xb T w0 w' :=
  ⟨hb.os.trans h.os, hb.tape.trans h.tape, hb.output.trans h.output, Nat.le_trans h.size hb.size, fun j hj hne => (hb.block j (Nat.lt_of_lt_of_le hj h.size)).trans (h.block j hj hne), by
    obtain ⟨v, hv⟩ := h.box
    exact ⟨v, (hb.block _ (lt_of_get hv)).trans hv⟩⟩
theorem Frm.low {xb : Nat} {T : TypeId} {w0 w : World} (h : Frm xb T w0 w) {B : Nat} (hB : B ≤ xb) (hs : B ≤ w0.heap.size) : Below B w0 w := ⟨h.os, h.tape, h.output, h.size, fun j hj => h.block j (by omega) (by omega)⟩
theorem isov_frm {xb B0 pb n : Nat} {o : Obj} {T : TypeId} {w0 w : World} {bs : List Bool} {R : Bool → Nat → Rw} {nodes arcs : Int} (h : IsOv (P1 xb o) B0 w0 pb n bs R nodes arcs) (hf : Frm xb T w0 w) : ∃ o', IsOv (P1 xb o') B0 w pb n bs R nodes arcs := by
  obtain ⟨v, hv⟩ := hf.box
  have hx : w0.heap[xb]? = some o := h.seen
  have hlt := lt_of_get hx
  obtain ⟨w1, hw1⟩ : ∃ w1 : World, w1 = { w0 with heap := w0.heap.setIfInBounds xb (.cells #[v] T (0, 0)) } := ⟨_, rfl⟩
  have e1 : w1.heap[xb]? = some (.cells #[v] T (0, 0)) := by rw [hw1]; simp [hlt]
  have e2 : ∀ j, j ≠ xb → w1.heap[j]? = w0.heap[j]? := fun j hj => by rw [hw1]; simp [Ne.symm hj]
  have hsz : w1.heap.size = w0.heap.size := by rw [hw1]; simp
  have hk := h.write (X := xb) (o := o) (by unfold P1; rw [if_pos rfl]) e1 e2
  have eP : updP (P1 xb o) xb (.cells #[v] T (0, 0)) = P1 xb (.cells #[v] T (0, 0)) := by
    funext Y
    unfold updP P1
    split
    · rfl
    · rfl
  rw [eP] at hk
  refine ⟨_, hk.keep ⟨by rw [hw1]; exact hf.os, by rw [hw1]; exact hf.tape, by rw [hw1]; exact hf.output, by rw [hsz]; exact hf.size, fun j hj => ?_⟩⟩
  by_cases e : j = xb
  · rw [e, hv, e1]
  · rw [e2 j e]
    exact hf.block j (by omega) e
theorem sees_tied {PX : Nat → Option Obj} {w : World} {B0 pb n : Nat} {bs : List Bool} {R : Bool → Nat → Rw} {nodes arcs : Int} {zs : List A4} (h : IsOv PX B0 w pb n bs R nodes arcs) (ht : Tied n bs R zs) (hb : ZB zs) (hn : n ≤ 512) (skip : Int) : Sees w pb n (aliveB n bs) (rowsZ (rowW n bs R) skip n) skip := fun wx hx u hu go gc gs hg hl ha mo hops se => by
  have hr := rowsW_tied ht h.inv hb
  refine (wfind_calls (ovF_tied (h.keep hx) hr) skip (rowsZ_fine hr hn) (fun v hv => rowsZ_row hv) (by omega) (u : Int) go gc gs hg hl mo hops se).mono ?_
  rintro e w' ⟨hb', ⟨_, db, rfl, hdb, hu'⟩ | ⟨hne, _⟩⟩
  · rw [Int.toNat_natCast, findL_is] at hu'
    exact ⟨db, rfl, hu', hdb, hb'⟩
  · exact absurd (findErr_iff.2 ⟨hu, ha⟩) hne
/-- a half on a side of a node: a living end, a weight that fits. -/
theorem half_ok {n : Nat} {bs : List Bool} {R : Bool → Nat → Rw} {zs : List A4} (ht : Tied n bs R zs) (hi : OvInv n bs R) (hb : ZB zs) {s : Bool} {x : Int} {a : H3} (ha : a ∈ outM n bs R s x) : (0 ≤ a.2.1 ∧ a.2.1 ≤ 140737488355328) ∧ aliveB n bs a.1 = true ∧ a.1 ≠ x := by
  rw [← ht.outM hi] at ha
  have h1 := (sortA_mem _).1 ha
  unfold sideA at h1
  obtain ⟨z, hz, rfl⟩ := List.mem_map.1 h1
  obtain ⟨hz, hzx⟩ := List.mem_filter.1 hz
  obtain ⟨p, q, e1, e2, hp, hq, lp, lq, hpq⟩ := ht.ends z hz
  have hw := hb z hz
  simp only [beq_iff_eq] at hzx
  refine ⟨hw, ?_, ?_⟩
  · cases s
    · exact aliveB_iff.2 ⟨q, e2, hq, lq⟩
    · exact aliveB_iff.2 ⟨p, e1, hp, lp⟩
  · cases s
    · show z.2.1 ≠ x
      have : z.1 = x := hzx
      omega
    · show z.1 ≠ x
      have : z.2.1 = x := hzx
      omega
theorem half_few {n : Nat} {bs : List Bool} {R : Bool → Nat → Rw} (hi : OvInv n bs R) (s : Bool) (x : Int) : (outM n bs R s x).length ≤ n := by
  unfold outM
  split
  · rename_i ha
    obtain ⟨u, rfl, hu, _⟩ := aliveB_iff.1 ha
    rw [Int.toNat_natCast]
    refine rise_few (rowL_rise hi s hu) fun a ha => ?_
    obtain ⟨m, e, hm, _⟩ := rowL_at hi s hu ha
    omega
  · simp
theorem out_own {PX : Nat → Option Obj} {w : World} {B0 pb n : Nat} {bs : List Bool} {R : Bool → Nat → Rw} {nodes arcs : Int} (h : IsOv PX B0 w pb n bs R nodes arcs) {x : Int} (ha : aliveB n bs x = true) : Calls Tryz.prog 11 #[.pointer (some ⟨pb, 0, none⟩), .int .i64 x] w fun e w' => ∃ so sc, e = .returned (.slice so (outM n bs R false x).length sc) ∧ w'.ownsRow w.heap.size 49 3 (.slice so (outM n bs R false x).length sc) (outM n bs R false x).length (flatH (outM n bs R false x)) ∧ Below w.heap.size w w' := by
  refine (h.out x).mono ?_
  rintro e w' ⟨v', rfl, _, ho, hb⟩
  have e : outM n bs R false x = livH bs (R false x.toNat).2.1 := by unfold outM; rw [if_pos ha]; rfl
  rw [e]
  have ho := ho ha
  obtain ⟨so, sc, hv⟩ := rowH_slice ho
  subst hv
  exact ⟨so, sc, rfl, ho, hb⟩
theorem in_own {PX : Nat → Option Obj} {w : World} {B0 pb n : Nat} {bs : List Bool} {R : Bool → Nat → Rw} {nodes arcs : Int} (h : IsOv PX B0 w pb n bs R nodes arcs) {x : Int} (ha : aliveB n bs x = true) : Calls Tryz.prog 39 #[.pointer (some ⟨pb, 0, none⟩), .int .i64 x] w fun e w' => ∃ so sc, e = .returned (.slice so (outM n bs R true x).length sc) ∧ w'.ownsRow w.heap.size 49 3 (.slice so (outM n bs R true x).length sc) (outM n bs R true x).length (flatH (outM n bs R true x)) ∧ Below w.heap.size w w' := by
  refine (h.inn x).mono ?_
  rintro e w' ⟨v', rfl, _, ho, hb⟩
  have e : outM n bs R true x = livH bs (R true x.toNat).2.1 := by unfold outM; rw [if_pos ha]; rfl
  rw [e]
  have ho := ho ha
  obtain ⟨so, sc, hv⟩ := rowH_slice ho
  subst hv
  exact ⟨so, sc, rfl, ho, hb⟩
/-- a way's ends live, its weight fits. -/
theorem dear_ok {n : Nat} {bs : List Bool} {R : Bool → Nat → Rw} {zs : List A4} (ht : Tied n bs R zs) (hi : OvInv n bs R) (hb : ZB zs) {v : Int} {i : H3} (h0 : 0 ≤ i.2.1) {a : S3} (ha : a ∈ dearL n bs R i (outM n bs R false v)) : a.1 = i.1 ∧ aliveB n bs a.2.1 = true ∧ 0 ≤ a.2.2 ∧ a.2.2 ≤ 140737488355328 := by
  unfold dearL at ha
  obtain ⟨y, hy, rfl⟩ := List.mem_map.1 ha
  obtain ⟨hy, hd⟩ := List.mem_filter.1 hy
  obtain ⟨h1, h2, _⟩ := half_ok ht hi hb hy
  unfold dearB at hd
  simp only [Bool.and_eq_true, decide_eq_true_eq] at hd
  exact ⟨rfl, h2, by show 0 ≤ i.2.1 + y.2.1; omega, hd.1.2⟩
/-- the shortcuts that a contraction needs. -/
def needI (n : Nat) (bs : List Bool) (R : Bool → Nat → Rw) (v hops se : Int) (i : H3) : List S3 := witL n (rowsZ (rowW n bs R) v n) hops se (dearL n bs R i (outM n bs R false v))
def needL (n : Nat) (bs : List Bool) (R : Bool → Nat → Rw) (v hops se : Int) : List S3 := (outM n bs R true v).flatMap (needI n bs R v hops se)
theorem witL_len (n : Nat) (Z : List (Int × Int × Int)) (hops se : Int) (W : List S3) : (witL n Z hops se W).length ≤ W.length := by
  cases W with
  | nil => exact Nat.le_refl _
  | cons a r => exact List.length_filter_le _ _
theorem needI_len {n : Nat} {bs : List Bool} {R : Bool → Nat → Rw} (hi : OvInv n bs R) (v hops se : Int) (i : H3) : (needI n bs R v hops se i).length ≤ n := Nat.le_trans (witL_len _ _ _ _ _) (Nat.le_trans (dearL_len _ _ _ _ _) (half_few hi false v))
theorem flat_len {α β : Type} (f : α → List β) (n : Nat) : ∀ l : List α, (∀ a, (f a).length ≤ n) → (l.flatMap f).length ≤ l.length * n
  | [], _ => by simp
  | a :: r, h => by
    have ih := flat_len f n r h
    have := h a
    rw [List.flatMap_cons, List.length_append, List.length_cons, Nat.add_mul, Nat.one_mul]
    omega
set_option maxRecDepth 100000 in
set_option maxHeartbeats 16000000 in
theorem each_calls {w : World} {xb B0 pb n : Nat} {o : Obj} {T : TypeId} {bs : List Bool} {R : Bool → Nat → Rw} {nodes arcs : Int} {zs : List A4} (h : IsOv (P1 xb o) B0 w pb n bs R nodes arcs) (ht : Tied n bs R zs) (hz : ZB zs) (hn : n ≤ 512) (v o0 o1 o2 o3 o4 : Int) (F : Nat) (hen : Enters Tryz.prog F)
    (TK : World → World → List S3 → Prop) (h0 : ∀ W2, Below w.heap.size w W2 → TK W2 W2 []) (hk : ∀ W2 wx wy L, TK W2 wx L → Below wx.heap.size wx wy → TK W2 wy L) (hfr : ∀ W2 wx L, TK W2 wx L → Frm xb T W2 wx)
    (hst : ∀ W2 wx L so sc xs, TK W2 wx L → HasSs wx (.slice so xs.length sc) xs → (so = none → sc = 0) → L.length + xs.length ≤ 1048576 → Calls Tryz.prog F #[.slice so xs.length sc, .pointer (some ⟨xb, 0, none⟩)] wx fun e w' => e = .returned (.tuple #[]) ∧ TK W2 w' (L ++ xs)) :
    Calls Tryz.prog 35 #[.pointer (some ⟨pb, 0, none⟩), .int .i64 v, .agg #[.int .i64 o0, .int .i64 o1, .int .i64 o2, .int .i64 o3, .int .i64 o4], .func (.func F) #[] #[.pointer (some ⟨xb, 0, none⟩)]] w fun e w' =>
      (aliveB n bs v = false ∧ e = .returned (.iface 104 (.int .i64 7)) ∧ Below w.heap.size w w') ∨
      (aliveB n bs v = true ∧ e = .returned .nilIface ∧ ∃ W2, Below w.heap.size w W2 ∧ TK W2 w' (needL n bs R v (min (max o0 0) 1048576) (min (max o1 0) 1048576))) := by
  obtain ⟨W0, hW0⟩ : ∃ W0, w.alloc (optObj o0 o1 o2 o3 o4) = W0 := ⟨_, rfl⟩
  have HW0 : Hid (w.alloc (.cells #[.int .i64 o0, .int .i64 o1, .int .i64 o2, .int .i64 o3, .int .i64 o4] 27) = W0) := hW0
  have hB0 : Below w.heap.size w W0 := by rw [← hW0]; exact bel_one _ _
  have hk0 : W0.heap[w.heap.size]? = some (optObj o0 o1 o2 o3 o4) := by rw [← hW0]; exact heap_new _ _
  have hxb : xb < w.heap.size := lt_of_get h.seen
  obtain ⟨hp, hhp⟩ : ∃ hp, min (max o0 0) 1048576 = hp := ⟨_, rfl⟩
  obtain ⟨sp, hsp⟩ : ∃ sp, min (max o1 0) 1048576 = sp := ⟨_, rfl⟩
  have HAL : Hid (type_of% ((h.keep hB0).alive v)) := (h.keep hB0).alive v
  have HH : Hid (∀ wx, Below w.heap.size w wx → IsOv (P1 xb o) B0 wx pb n bs R nodes arcs) := fun wx hx => h.keep hx
  have hinv := h.inv
  have HTZ : Hid (Tied n bs R zs ∧ ZB zs ∧ n ≤ 512 ∧ OvInv n bs R ∧ xb < w.heap.size) := ⟨ht, hz, hn, hinv, hxb⟩
  have HW : Hid (∀ W2, Below W0.heap.size W0 W2 → Below w.heap.size w W2 ∧ W2.heap[w.heap.size]? = some (optObj o0 o1 o2 o3 o4) ∧ w.heap.size < W2.heap.size) := fun W2 hx => ⟨btr hB0 hx, (hx.block _ (lt_of_get hk0)).trans hk0, Nat.lt_of_lt_of_le (lt_of_get hk0) hx.size⟩
  have H0 : Hid (∀ W2, Below w.heap.size w W2 → TK W2 W2 []) := h0
  have HKK : Hid (∀ W2 wx wy L, TK W2 wx L → Below wx.heap.size wx wy → TK W2 wy L) := hk
  have HFR : Hid (∀ W2 wx L, TK W2 wx L → Frm xb T W2 wx) := hfr
  have HST : Hid (type_of% hst) := hst
  have HEN : Hid (Enters Tryz.prog F) := hen
  have HWI : Hid (∀ (wx : World) (bs' : Nat) (g cap u : Nat) (W : List S3), (∃ o', IsOv (P1 xb o') B0 wx pb n bs R nodes arcs) → wx.ownsRow bs' 89 3 (.slice (some ⟨g, 0, none⟩) W.length cap) W.length (flatS W) → W.length ≤ 1000 → aliveB n bs (u : Int) = true → (∀ a ∈ W, a.1 = (u : Int) ∧ aliveB n bs a.2.1 = true ∧ 0 ≤ a.2.2 ∧ a.2.2 ≤ 140737488355328) → Calls Tryz.prog 57 #[.pointer (some ⟨pb, 0, none⟩), .int .i64 v, .slice (some ⟨g, 0, none⟩) W.length cap, .agg #[.int .i64 o0, .int .i64 o1, .int .i64 o2, .int .i64 o3, .int .i64 o4]] wx fun e w' => ∃ so sc, e = .returned (.tuple #[.slice so (witL n (rowsZ (rowW n bs R) v n) hp sp W).length sc, .nilIface]) ∧ HasSs w' (.slice so (witL n (rowsZ (rowW n bs R) v n) hp sp W).length sc) (witL n (rowsZ (rowW n bs R) v n) hp sp W) ∧ (so = none → sc = 0) ∧ Below bs' wx w') := fun wx bs' g cap u W hov hrow hl hu hW => by
    obtain ⟨o', hov⟩ := hov
    have hc := wit_calls (sees_tied hov ht hz hn v) bs' g cap W hrow hl u hu hW o0 o1 o2 o3 o4
    rw [hhp, hsp] at hc
    exact hc
  rw [hhp, hsp]
  clear hW0 hB0 hk0 hxb hhp hsp h ht hz hinv h0 hk hfr hst hen
  go_enter Tryz.func35, Tryz.ntmps35
  go_upto_region 1 with fail
  rw [HW0.out]
  go_wp2_with fail
  refine HAL.out.mono ?_
  rintro e w1 ⟨rfl, rfl⟩
  cases hal : aliveB n bs v with
  | false =>
    have HZ : Hid (Below w.heap.size w w1) := (HW.out w1 (Below.refl _ _)).1
    go_wp2
    go_ret
    exact Or.inl ⟨hal, by simp, HZ.out⟩
  | true =>
    have HV : Hid (aliveB n bs v = true) := hal
    have HOU : Hid (type_of% (out_own (HH.out w1 (HW.out w1 (Below.refl _ _)).1) hal)) := out_own (HH.out w1 (HW.out w1 (Below.refl _ _)).1) hal
    have HIN : Hid (∀ wx (hx : Below w.heap.size w wx), type_of% (in_own (HH.out wx hx) hal)) := fun wx hx => in_own (HH.out wx hx) hal
    have HND : Hid (needL n bs R v hp sp = (outM n bs R true v).flatMap (needI n bs R v hp sp)) := rfl
    have HNI : Hid (∀ i, needI n bs R v hp sp i = witL n (rowsZ (rowW n bs R) v n) hp sp (dearL n bs R i (outM n bs R false v))) := fun i => rfl
    have HLE : Hid ((outM n bs R true v).length ≤ n ∧ (outM n bs R false v).length ≤ n ∧ ∀ i, (needI n bs R v hp sp i).length ≤ n) := ⟨half_few HTZ.out.2.2.2.1 true v, half_few HTZ.out.2.2.2.1 false v, fun i => needI_len HTZ.out.2.2.2.1 v hp sp i⟩
    have HOK : Hid ((∀ a ∈ outM n bs R true v, (0 ≤ a.2.1 ∧ a.2.1 ≤ 140737488355328) ∧ aliveB n bs a.1 = true) ∧ (∀ a ∈ outM n bs R false v, 0 ≤ a.2.1 ∧ a.2.1 ≤ 140737488355328) ∧ ∀ i : H3, 0 ≤ i.2.1 → ∀ a ∈ dearL n bs R i (outM n bs R false v), a.1 = i.1 ∧ aliveB n bs a.2.1 = true ∧ 0 ≤ a.2.2 ∧ a.2.2 ≤ 140737488355328) :=
      ⟨fun a ha => ⟨(half_ok HTZ.out.1 HTZ.out.2.2.2.1 HTZ.out.2.1 ha).1, (half_ok HTZ.out.1 HTZ.out.2.2.2.1 HTZ.out.2.1 ha).2.1⟩, fun a ha => (half_ok HTZ.out.1 HTZ.out.2.2.2.1 HTZ.out.2.1 ha).1, fun i h0 a ha => dear_ok HTZ.out.1 HTZ.out.2.2.2.1 HTZ.out.2.1 h0 ha⟩
    generalize outM n bs R true v = ins at *
    generalize outM n bs R false v = outs at *
    clear hal
    go_wp2_with fail
    refine HOU.out.mono ?_
    rintro e w2 ⟨so, sc, rfl, ho2, hb2⟩
    have H2 : Hid (w2.ownsRow w1.heap.size 49 3 (.slice so outs.length sc) outs.length (flatH outs) ∧ Below w1.heap.size w1 w2) := ⟨ho2, hb2⟩
    clear ho2 hb2 HOU
    have HIW : Hid (type_of% (HIN.out w2 (HW.out w2 H2.out.2).1)) := HIN.out w2 (HW.out w2 H2.out.2).1
    go_wp2_with fail
    refine HIW.out.mono ?_
    rintro e w3 ⟨io, ic, rfl, ho3, hb3⟩
    have H3 : Hid (w3.ownsRow w2.heap.size 49 3 (.slice io ins.length ic) ins.length (flatH ins) ∧ w3.ownsRow w1.heap.size 49 3 (.slice so outs.length sc) outs.length (flatH outs) ∧ Below w1.heap.size w1 w3) := ⟨ho3, row_below9 H2.out.1 hb3, btr H2.out.2 hb3⟩
    clear ho3 hb3 HIW HIN
    have HX : Hid (∀ wx, Frm xb T w3 wx → (∃ o', IsOv (P1 xb o') B0 wx pb n bs R nodes arcs) ∧ HasHs wx (.slice io ins.length ic) ins ∧ HasHs wx (.slice so outs.length sc) outs ∧ wx.heap[w.heap.size]? = some (optObj o0 o1 o2 o3 o4)) := fun wx hf => by
      obtain ⟨q1, q2, q3⟩ := HW.out w3 H3.out.2.2
      obtain ⟨_, _, q4⟩ := HW.out w1 (Below.refl _ _)
      have q5 := HTZ.out.2.2.2.2
      have q6 := H2.out.2.size
      exact ⟨isov_frm (HH.out w3 q1) hf, hs_of_rowH (row_keep9 H3.out.1 fun g hg => hf.block g (H3.out.1.lt g hg).2 (by have := (H3.out.1.lt g hg).1; omega)), hs_of_rowH (row_keep9 H3.out.2.1 fun g hg => hf.block g (H3.out.2.1.lt g hg).2 (by have := (H3.out.2.1.lt g hg).1; omega)), (hf.block _ q3 (by omega)).trans q2⟩
    have HT0 : Hid (TK w3 w3 []) := H0.out w3 (HW.out w3 H3.out.2.2).1
    go_wp2_with fail
    go_loopw [29] (fun iv wr => ∃ k : Nat, k ≤ ins.length ∧ iv = .int .i64 k ∧ TK w3 wr ((ins.take k).flatMap (needI n bs R v hp sp))) (fun iv _ => ins.length - (intOf iv).toNat)
    case atStart => exact ⟨0, Nat.zero_le _, rfl, by rw [List.take_zero]; exact HT0.out⟩
    case round =>
      obtain ⟨k, hk, rfl, hT⟩ := hrel
      have HT : Hid (TK w3 wr ((ins.take k).flatMap (needI n bs R v hp sp))) := hT
      clear hT
      by_cases hlt : k < ins.length
      · obtain ⟨a, ha⟩ : ∃ a, ins[k]? = some a := ⟨ins[k], List.getElem?_eq_getElem hlt⟩
        have hF := HFR.out _ _ _ HT.out
        obtain ⟨b, off, rfl, bl, p0, p1, p2⟩ := (HX.out wr hF).2.1.at ha
        have HSU : Hid ((ins.take (k + 1)).flatMap (needI n bs R v hp sp) = (ins.take k).flatMap (needI n bs R v hp sp) ++ needI n bs R v hp sp a) := by
          show _ = _
          rw [List.take_add_one, ha, List.flatMap_append]
          simp
        have HLL : Hid (((ins.take k).flatMap (needI n bs R v hp sp)).length + (needI n bs R v hp sp a).length ≤ 1048576) := by
          have h1 := flat_len (needI n bs R v hp sp) n (ins.take k) HLE.out.2.2
          have h2 := HLE.out.2.2 a
          have h3 := HLE.out.1
          have h4 := HTZ.out.2.2.1
          have h5 : (ins.take k).length ≤ 512 := by rw [List.length_take]; omega
          have h6 := Nat.mul_le_mul h5 h4
          show _ ≤ _
          omega
        obtain ⟨n0, n1⟩ := HOK.out.1 a (List.mem_of_getElem? ha)
        obtain ⟨u, hau, _, _⟩ := aliveB_iff.1 n1
        have HDO : Hid (type_of% (HOK.out.2.2 a n0.1)) := HOK.out.2.2 a n0.1
        have HNA : Hid (type_of% (HNI.out a)) := HNI.out a
        obtain ⟨a0, a1, a2⟩ := a
        simp only at p0 p1 p2 n0 n1 hau HDO
        subst hau
        obtain ⟨W4, hW4⟩ : ∃ W4, wr.alloc (.cells #[.int .i64 (u : Int), .int .u64 a1, .int .i64 a2] 49) = W4 := ⟨_, rfl⟩
        have HW4 : Hid (wr.alloc (.cells #[.int .i64 (u : Int), .int .u64 a1, .int .i64 a2] 49) = W4) := hW4
        have hb4 : Below wr.heap.size wr W4 := by rw [← hW4]; exact bel_one _ _
        have k4 : W4.heap[wr.heap.size]? = some (.cells #[.int .i64 (u : Int), .int .u64 a1, .int .i64 a2] 49) := by rw [← hW4]; exact heap_new _ _
        have HC : Hid (∀ wx, Below W4.heap.size W4 wx → (wx.cell? ⟨wr.heap.size, 0, none⟩ = some (.int .i64 (u : Int)) ∧ wx.cell? ⟨wr.heap.size, 1, none⟩ = some (.int .u64 a1) ∧ wx.cell? ⟨wr.heap.size, 2, none⟩ = some (.int .i64 a2) ∧ wr.heap.size < wx.heap.size) ∧ (wx.cell? ⟨w.heap.size, 0, none⟩ = some (.int .i64 o0) ∧ wx.cell? ⟨w.heap.size, 1, none⟩ = some (.int .i64 o1) ∧ wx.cell? ⟨w.heap.size, 2, none⟩ = some (.int .i64 o2) ∧ wx.cell? ⟨w.heap.size, 3, none⟩ = some (.int .i64 o3) ∧ wx.cell? ⟨w.heap.size, 4, none⟩ = some (.int .i64 o4) ∧ w.heap.size < wx.heap.size) ∧ Below wr.heap.size wr wx) := fun wx hx => by
          have hq := (hx.block _ (lt_of_get k4)).trans k4
          have hb := btr hb4 hx
          have ho := (HX.out wx (hF.step hb)).2.2.2
          exact ⟨⟨by simp [World.cell?, hq], by simp [World.cell?, hq], by simp [World.cell?, hq], lt_of_get hq⟩, ⟨(opt_cells ho).1, (opt_cells ho).2.1, (opt_all ho).1, (opt_all ho).2.1, (opt_all ho).2.2, lt_of_get ho⟩, hb⟩
        have HDE : Hid (∀ wx, Below W4.heap.size W4 wx → Calls Tryz.prog 58 #[.pointer (some ⟨pb, 0, none⟩), .agg #[.int .i64 (u : Int), .int .u64 a1, .int .i64 a2], .slice so outs.length sc] wx fun e w' => ∃ g, e = .returned (.slice (some ⟨g, 0, none⟩) (dearL n bs R ((u : Int), a1, a2) outs).length outs.length) ∧ w'.ownsRow W4.heap.size 89 3 (.slice (some ⟨g, 0, none⟩) (dearL n bs R ((u : Int), a1, a2) outs).length outs.length) (dearL n bs R ((u : Int), a1, a2) outs).length (flatS (dearL n bs R ((u : Int), a1, a2) outs)) ∧ Below W4.heap.size W4 w') := fun wx hx => by
          have hq := HX.out wx (hF.step (HC.out wx hx).2.2)
          obtain ⟨o', hov⟩ := hq.1
          refine (dear_calls hov ((u : Int), a1, a2) n0 so sc outs hq.2.2.1 HOK.out.2.1 (by have := HLE.out.2.1; have := HTZ.out.2.2.1; omega)).mono ?_
          rintro e w' ⟨g, rfl, hown, hb⟩
          exact ⟨g, rfl, rowX_base hown hx.size, btr hx hb⟩
        have HWX : Hid (∀ wx g, Below W4.heap.size W4 wx → wx.ownsRow W4.heap.size 89 3 (.slice (some ⟨g, 0, none⟩) (dearL n bs R ((u : Int), a1, a2) outs).length outs.length) (dearL n bs R ((u : Int), a1, a2) outs).length (flatS (dearL n bs R ((u : Int), a1, a2) outs)) → Calls Tryz.prog 57 #[.pointer (some ⟨pb, 0, none⟩), .int .i64 v, .slice (some ⟨g, 0, none⟩) (dearL n bs R ((u : Int), a1, a2) outs).length outs.length, .agg #[.int .i64 o0, .int .i64 o1, .int .i64 o2, .int .i64 o3, .int .i64 o4]] wx fun e w' => ∃ lo lc, e = .returned (.tuple #[.slice lo (needI n bs R v hp sp ((u : Int), a1, a2)).length lc, .nilIface]) ∧ HasSs w' (.slice lo (needI n bs R v hp sp ((u : Int), a1, a2)).length lc) (needI n bs R v hp sp ((u : Int), a1, a2)) ∧ (lo = none → lc = 0) ∧ Below W4.heap.size W4 w') := fun wx g hx hown => by
          have hq := HX.out wx (hF.step (HC.out wx hx).2.2)
          rw [HNA.out]
          refine (HWI.out wx W4.heap.size g outs.length u _ hq.1 hown (by have h1 := dearL_len n bs R ((u : Int), a1, a2) outs; have := HLE.out.2.1; have := HTZ.out.2.2.1; omega) n1 HDO.out).mono ?_
          rintro e w' ⟨lo, lc, rfl, hss, hlc, hb⟩
          exact ⟨lo, lc, rfl, hss, hlc, hx.trans hb⟩
        obtain ⟨⟨c0, c1, c2, cs⟩, ⟨e0, e1, e2, e3, e4, es⟩, _⟩ := HC.out W4 (Below.refl _ _)
        have HTK : Hid (∀ wx, Below W4.heap.size W4 wx → TK w3 wx ((ins.take k).flatMap (needI n bs R v hp sp))) := fun wx hx => HKK.out _ _ _ _ HT.out (HC.out wx hx).2.2
        have i1 : (k : Int) < (ins.length : Int) := by omega
        have i2 : (0 : Int) ≤ (k : Int) := by omega
        have hk512 : ins.length ≤ 512 := Nat.le_trans HLE.out.1 HTZ.out.2.2.1
        clear ha hF hW4 hb4 k4 n0 n1 HDO HNA HT
        generalize dearL n bs R ((u : Int), a1, a2) outs = D at *
        generalize (ins.take k).flatMap (needI n bs R v hp sp) = L at *
        generalize hNE : needI n bs R v hp sp ((u : Int), a1, a2) = E at *
        clear hNE
        go_upto_region 9 with fail
        rw [HW4.out]
        clear p0 p1 p2 bl
        go_region_held3 (fun w' => w'.cell? ⟨wr.heap.size, 0, none⟩ = some (.int .i64 (u : Int)) ∧ w'.cell? ⟨wr.heap.size, 1, none⟩ = some (.int .u64 a1) ∧ w'.cell? ⟨wr.heap.size, 2, none⟩ = some (.int .i64 a2) ∧ w'.cell? ⟨w.heap.size, 0, none⟩ = some (.int .i64 o0) ∧ w'.cell? ⟨w.heap.size, 1, none⟩ = some (.int .i64 o1) ∧ w'.cell? ⟨w.heap.size, 2, none⟩ = some (.int .i64 o2) ∧ w'.cell? ⟨w.heap.size, 3, none⟩ = some (.int .i64 o3) ∧ w'.cell? ⟨w.heap.size, 4, none⟩ = some (.int .i64 o4)) (go_keep) (first
          | (go_at_call 57; refine (HWX.out _ g9 (by first | exact Y1.out.1 | exact Y1.out.1.drew) (by first | exact Y1.out.2 | exact row_below9 Y1.out.2 (Below.refl _ _).drew)).mono ?_; rintro e y2 ⟨lo, lc, rfl, hy1, hy3, hy2⟩; have Y2 : Hid (Below W4.heap.size W4 y2 ∧ HasSs y2 (.slice lo E.length lc) E ∧ (lo = none → lc = 0)) := ⟨hy2, hy1, hy3⟩; clear c0 c1 c2 cs e0 e1 e2 e3 e4 es; obtain ⟨⟨c0, c1, c2, cs⟩, ⟨e0, e1, e2, e3, e4, es⟩, _⟩ := HC.out y2 Y2.out.1; clear hy1 hy2 hy3)
          | (go_at_call 58; refine (HDE.out _ (by first | exact Below.refl _ _ | exact (Below.refl _ _).drew)).mono ?_; rintro e y1 ⟨g9, rfl, hy1, hy2⟩; have Y1 : Hid (Below W4.heap.size W4 y1 ∧ y1.ownsRow W4.heap.size 89 3 (.slice (some ⟨g9, 0, none⟩) D.length outs.length) D.length (flatS D)) := ⟨hy2, hy1⟩; clear c0 c1 c2 cs e0 e1 e2 e3 e4 es; obtain ⟨⟨c0, c1, c2, cs⟩, ⟨e0, e1, e2, e3, e4, es⟩, _⟩ := HC.out y1 Y1.out.1; clear hy1 hy2))
        all_goals
          clear c0 c1 c2 cs e0 e1 e2 e3 e4 es
          have HCL : Hid (type_of% (HST.out w3 y2 L lo lc E (HTK.out y2 Y2.out.1) Y2.out.2.1 Y2.out.2.2 HLL.out)) := HST.out w3 y2 L lo lc E (HTK.out y2 Y2.out.1) Y2.out.2.1 Y2.out.2.2 HLL.out
          go_wp2_with fail
          rw [HEN.out _ _, Oper.upon_enter]
          refine HCL.out.mono ?_
          rintro e w7 ⟨rfl, hT7⟩
          have H7 : Hid (TK w3 w7 (L ++ E)) := hT7
          clear hT7 HCL
          go_wp2
          go_roundw
          case rel => exact ⟨k + 1, by omega, by go_num, by rw [HSU.out]; exact H7.out⟩
          case measure => simp [intOf]; omega
      · obtain rfl : k = ins.length := by omega
        have HZ : Hid (TK w3 wr (ins.flatMap (needI n bs R v hp sp))) := by have h := HT.out; rw [List.take_length] at h; exact h
        go_wp2
        go_ret
        exact Or.inr ⟨HV.out, rfl, w3, (HW.out w3 H3.out.2.2).1, by rw [HND.out]; exact HZ.out⟩
end Go.Proofs.YtbkclhaonbjobaaGreat.Wt

namespace Go.Proofs.YtbkclhaonbjobaaGreat.Wt
open Go Go.RowKit Go.Extern Go.Deep

attribute [local go_sem] Oper.semAt_some

/-- append of no shortcuts. -/
theorem wpList_append_ssN {w : World} {ops : Array Oper} {rest : List Oper} {o : Oper} {a : Act} {Q : Exit → Act → World → Prop} (hgd : o.guard = none) (s x : Operand)
    (ho : o.op = .call { callee := .builtin .append, args := #[s, x], argTypes := #[38, 38] })
    (base : Nat) (v : Value) (L : List S3) (hs : a.eval s = v) (hown : w.ownsRow base 89 3 v L.length (flatS L)) (hx : a.eval x = .slice none 0 0)
    (h : wpList Tryz.prog ops Q rest (a.put o.dst v) w) : wpList Tryz.prog ops Q (o :: rest) a w := by
  obtain ⟨i0, hi, hz0, hz1, hz2⟩ := infoS'
  exact wpList_append_own_none hgd s x 38 ho base 89 i0 3 Tryz.underlying38 hi v L.length (flatS L) hs hown hx h
/-- what has been taken so far: all of it. -/
def TKn (xb : Nat) (w0 w : World) (L : List S3) : Prop := Frm xb 38 w0 w ∧ xb < w0.heap.size ∧ ∃ v, w.heap[xb]? = some (.cells #[v] 38 (0, 0)) ∧ w.ownsRow w0.heap.size 89 3 v L.length (flatS L)
theorem TKn.keep {xb : Nat} {w0 w w' : World} {L : List S3} (h : TKn xb w0 w L) (hb : Below w.heap.size w w') : TKn xb w0 w' L := by
  obtain ⟨h1, h2, v, h3, h4⟩ := h
  exact ⟨h1.step hb, h2, v, (hb.block _ (lt_of_get h3)).trans h3, row_below9 h4 hb⟩
theorem TKn.app {xb : Nat} {w0 w w3 : World} {L L' : List S3} {v v3 : Value} (h1 : Frm xb 38 w0 w) (h2 : xb < w0.heap.size) (h3 : w.heap[xb]? = some (.cells #[v] 38 (0, 0))) (h4 : w.ownsRow w0.heap.size 89 3 v L.length (flatS L)) (ho : w3.ownsRow w0.heap.size 89 3 v3 L'.length (flatS L')) (hg : w.grownBy w3 v.ownBlock) :
    TKn xb w0 (w3.setCell ⟨xb, 0, none⟩ v3) L' ∧ w3.cell? ⟨xb, 0, none⟩ = some v ∧ w3.frozen? ⟨xb, 0, none⟩ = false ∧ xb < w3.heap.size := by
  have hne : v.ownBlock ≠ some xb := fun e => by have := (h4.lt xb e).1; omega
  have hx3 : w3.heap[xb]? = some (.cells #[v] 38 (0, 0)) := (hg.block xb (lt_of_get h3) (fun e => hne e.symm)).trans h3
  have hx4 : (w3.setCell ⟨xb, 0, none⟩ v3).heap[xb]? = some (.cells #[v3] 38 (0, 0)) := by
    simp only [World.setCell, Array.getElem?_modify]
    rw [if_pos trivial, hx3]
    rfl
  refine ⟨⟨⟨hg.os.trans h1.os, hg.tape.trans h1.tape, hg.output.trans h1.output, Nat.le_trans h1.size (Nat.le_trans hg.size (by simp)), fun j hj hj2 => ?_, v3, hx4⟩, h2, v3, hx4, row_keep9 ho fun g hg' => hso _ (fun e => by have := (ho.lt g hg').1; omega)⟩, by simp [World.cell?, hx3], by simp [World.frozen?, hx3], lt_of_get hx3⟩
  rw [hso _ hj2, hg.block j (Nat.lt_of_lt_of_le hj h1.size) (fun e => by have := (h4.lt j e.symm).1; omega)]
  exact h1.block j hj hj2
set_option maxRecDepth 100000 in
set_option maxHeartbeats 4000000 in
theorem need1_calls {xb : Nat} {w0 w : World} {L xs : List S3} {so : Option Addr} {sc : Nat} (h : TKn xb w0 w L) (hs : HasSs w (.slice so xs.length sc) xs) (hn : so = none → sc = 0) (hl : L.length + xs.length ≤ 1048576) :
    Calls Tryz.prog 36 #[.slice so xs.length sc, .pointer (some ⟨xb, 0, none⟩)] w fun e w' => e = .returned (.tuple #[]) ∧ TKn xb w0 w' (L ++ xs) := by
  obtain ⟨h1, h2, v, h3, h4⟩ := h
  have c0 : w.cell? ⟨xb, 0, none⟩ = some v := by simp [World.cell?, h3]
  have cs := lt_of_get h3
  have cz : w.frozen? ⟨xb, 0, none⟩ = false := by simp [World.frozen?, h3]
  have HA : Hid (∀ (v3 : Value) (w3 : World), w3.ownsRow w0.heap.size 89 3 v3 (L ++ xs).length (flatS (L ++ xs)) → w.grownBy w3 v.ownBlock → TKn xb w0 (w3.setCell ⟨xb, 0, none⟩ v3) (L ++ xs) ∧ w3.cell? ⟨xb, 0, none⟩ = some v ∧ w3.frozen? ⟨xb, 0, none⟩ = false ∧ xb < w3.heap.size) := fun v3 w3 ho hg => TKn.app h1 h2 h3 h4 ho hg
  have HF : Hid (w.ownsRow w0.heap.size 89 3 v L.length (flatS L) ∧ HasSs w (.slice so xs.length sc) xs ∧ w0.heap.size ≤ w.heap.size) := ⟨h4, hs, h1.size⟩
  obtain ⟨ao, c, hv⟩ := ssr_slice h4
  subst hv
  cases so with
  | none =>
    have hx0 : xs = [] := by
      cases xs with
      | nil => rfl
      | cons a r =>
        obtain ⟨b, off, e, _⟩ := hs.at (k := 0) (a := a) rfl
        cases e
    subst hx0
    obtain rfl := hn rfl
    have HZ : Hid (TKn xb w0 (w.setCell ⟨xb, 0, none⟩ (.slice ao L.length c)) (L ++ [])) := (HA.out (.slice ao L.length c) w (by rw [List.append_nil]; exact h4) ⟨rfl, rfl, rfl, Nat.le_refl _, fun _ _ _ => rfl⟩).1
    clear h1 h2 h3 h4 hs hn HA
    go_enter Tryz.func36, Tryz.ntmps36
    go_wp2_with (at_builtin; refine wpList_append_ssN rfl _ _ rfl w0.heap.size (.slice ao L.length c) L rfl HF.out.1 rfl ?_)
    exact bodyPost_end (v := .tuple #[]) (by simp [results, Tryz.results36]) rfl ⟨rfl, HZ.out⟩
  | some ad =>
    clear h1 h2 h3 h4 hs hn
    go_enter Tryz.func36, Tryz.ntmps36
    go_wp2_with (at_builtin; refine wpList_append_ss rfl _ _ rfl w0.heap.size (.slice ao L.length c) L rfl HF.out.1 ad sc xs rfl HF.out.2.1 hl HF.out.2.2 ?_; intro v3 w3 hown3 hgr3; obtain ⟨po, pc, hv3⟩ := ssr_slice hown3; subst hv3; obtain ⟨x1, x2, x3, x4⟩ := HA.out _ w3 hown3 hgr3; have HZ : Hid (type_of% x1) := x1; clear x1 hown3 hgr3 c0 cs cz)
    exact bodyPost_end (v := .tuple #[]) (by simp [results, Tryz.results36]) rfl ⟨rfl, by simpa using HZ.out⟩
/-- what has been taken so far: how many. -/
def TKd (xb : Nat) (w0 w : World) (L : List S3) : Prop := Frm xb 3 w0 w ∧ xb < w0.heap.size ∧ w.heap[xb]? = some (.cells #[.int .i64 (L.length : Int)] 3 (0, 0))
theorem TKd.keep {xb : Nat} {w0 w w' : World} {L : List S3} (h : TKd xb w0 w L) (hb : Below w.heap.size w w') : TKd xb w0 w' L := by
  obtain ⟨h1, h2, h3⟩ := h
  exact ⟨h1.step hb, h2, (hb.block _ (lt_of_get h3)).trans h3⟩
set_option maxRecDepth 100000 in
set_option maxHeartbeats 4000000 in
theorem diff1_calls {xb : Nat} {w0 w : World} {L xs : List S3} {so : Option Addr} {sc : Nat} (h : TKd xb w0 w L) (hl : L.length + xs.length ≤ 1048576) :
    Calls Tryz.prog 38 #[.slice so xs.length sc, .pointer (some ⟨xb, 0, none⟩)] w fun e w' => e = .returned (.tuple #[]) ∧ TKd xb w0 w' (L ++ xs) := by
  obtain ⟨h1, h2, h3⟩ := h
  have c0 : w.cell? ⟨xb, 0, none⟩ = some (.int .i64 (L.length : Int)) := by simp [World.cell?, h3]
  have cs := lt_of_get h3
  have cz : w.frozen? ⟨xb, 0, none⟩ = false := by simp [World.frozen?, h3]
  have iw : IntKind.i64.wrap ((L.length : Int) + (xs.length : Int)) = ((L ++ xs).length : Int) := by rw [IntKind.wrap_i64, List.length_append] <;> omega
  have hx4 : (w.setCell ⟨xb, 0, none⟩ (.int .i64 ((L ++ xs).length : Int))).heap[xb]? = some (.cells #[.int .i64 ((L ++ xs).length : Int)] 3 (0, 0)) := by
    simp only [World.setCell, Array.getElem?_modify]
    rw [if_pos trivial, h3]
    rfl
  have HZ : Hid (TKd xb w0 (w.setCell ⟨xb, 0, none⟩ (.int .i64 ((L ++ xs).length : Int))) (L ++ xs)) := ⟨⟨h1.os, h1.tape, h1.output, Nat.le_trans h1.size (by simp), fun j hj hj2 => (hso _ hj2).trans (h1.block j hj hj2), _, hx4⟩, h2, hx4⟩
  have HLN : Hid (((L ++ xs).length : Int) = (L.length : Int) + (xs.length : Int)) := by show _ = _; rw [List.length_append]; omega
  rw [HLN.out] at HZ iw
  clear h1 h2 h3 hx4
  go_enter Tryz.func38, Tryz.ntmps38
  go_wp2
  exact bodyPost_end (v := .tuple #[]) (by simp [results, Tryz.results38]) rfl ⟨rfl, HZ.out⟩
end Go.Proofs.YtbkclhaonbjobaaGreat.Wt

namespace Go.Proofs.YtbkclhaonbjobaaGreat.Wt
open Go Go.RowKit Go.Extern Go.Deep

attribute [local go_sem] Oper.semAt_some

theorem Frm.refl {xb : Nat} {T : TypeId} {w : World} {v : Value} (h : w.heap[xb]? = some (.cells #[v] T (0, 0))) : Frm xb T w w := ⟨rfl, rfl, rfl, Nat.le_refl _, fun _ _ _ => rfl, v, h⟩
section
variable {PX : Nat → Option Obj} {w : World} {B0 pb n : Nat} {bs : List Bool} {R : Bool → Nat → Rw} {nodes arcs : Int} {zs : List A4}
set_option maxRecDepth 100000 in
set_option maxHeartbeats 4000000 in
theorem need_calls (h : IsOv PX B0 w pb n bs R nodes arcs) (ht : Tied n bs R zs) (hz : ZB zs) (hn : n ≤ 512) (v o0 o1 o2 o3 o4 : Int) :
    Calls Tryz.prog 15 #[.pointer (some ⟨pb, 0, none⟩), .int .i64 v, .agg #[.int .i64 o0, .int .i64 o1, .int .i64 o2, .int .i64 o3, .int .i64 o4]] w fun e w' => Below w.heap.size w w' ∧
      ((aliveB n bs v = false ∧ e = .returned (.tuple #[.slice none 0 0, .iface 104 (.int .i64 7)])) ∨
       (aliveB n bs v = true ∧ ∃ so sc, e = .returned (.tuple #[.slice so (needL n bs R v (min (max o0 0) 1048576) (min (max o1 0) 1048576)).length sc, .nilIface]) ∧ w'.ownsRow w.heap.size 89 3 (.slice so (needL n bs R v (min (max o0 0) 1048576) (min (max o1 0) 1048576)).length sc) (needL n bs R v (min (max o0 0) 1048576) (min (max o1 0) 1048576)).length (flatS (needL n bs R v (min (max o0 0) 1048576) (min (max o1 0) 1048576))))) := by
  obtain ⟨W0, hW0⟩ : ∃ W0, w.alloc (optObj o0 o1 o2 o3 o4) = W0 := ⟨_, rfl⟩
  have HW0 : Hid (w.alloc (.cells #[.int .i64 o0, .int .i64 o1, .int .i64 o2, .int .i64 o3, .int .i64 o4] 27) = W0) := hW0
  have hB0 : Below w.heap.size w W0 := by rw [← hW0]; exact bel_one _ _
  have hk0 : W0.heap[w.heap.size]? = some (optObj o0 o1 o2 o3 o4) := by rw [← hW0]; exact heap_new _ _
  have hs0 : W0.heap.size = w.heap.size + 1 := by rw [← hW0]; simp
  obtain ⟨xb, hxb⟩ : ∃ xb, w.heap.size + 1 = xb := ⟨_, rfl⟩
  obtain ⟨W1, hW1⟩ : ∃ W1, W0.alloc (.cells #[.slice none 0 0] 38) = W1 := ⟨_, rfl⟩
  have HW1 : Hid (W0.alloc (.cells #[.slice none 0 0] 38) = W1) := hW1
  have hB1 : Below W0.heap.size W0 W1 := by rw [← hW1]; exact bel_one _ _
  have hg := (h.keep hB0).guard (.cells #[.slice none 0 0] 38 (0, 0))
  have hk1 : W1.heap[xb]? = some (.cells #[.slice none 0 0] 38 (0, 0)) := by rw [← hW1, ← hxb, ← hs0]; exact heap_new _ _
  rw [hs0, hxb] at hg
  have hg1 : IsOv (P1 xb (.cells #[.slice none 0 0] 38 (0, 0))) B0 W1 pb n bs R nodes arcs := by rw [← hW1]; exact hg
  have hea := each_calls (F := 36) (T := 38) hg1 ht hz hn v o0 o1 o2 o3 o4 (enters_of Tryz.func36 (by kernel_rfl) rfl) (TKn xb)
    (fun W2 hb => by
      have hx := (hb.block _ (lt_of_get hk1)).trans hk1
      exact ⟨Frm.refl hx, lt_of_get hx, _, hx, World.ownsRow_nil _ _ _ _⟩)
    (fun W2 wx wy L hT hb => hT.keep hb) (fun W2 wx L hT => hT.1) (fun W2 wx L so sc xs hT hs hc hl => need1_calls hT hs hc hl)
  obtain ⟨NL, hNL⟩ : ∃ NL, needL n bs R v (min (max o0 0) 1048576) (min (max o1 0) 1048576) = NL := ⟨_, rfl⟩
  rw [hNL] at hea ⊢
  have HEA : Hid (type_of% hea) := hea
  have HB : Hid (Below w.heap.size w W1 ∧ w.heap.size < xb) := ⟨btr hB0 hB1, by omega⟩
  have ho1 := (hB1.block _ (lt_of_get hk0)).trans hk0
  obtain ⟨c0, c1, cs⟩ := opt_cells ho1
  obtain ⟨c2, c3, c4⟩ := opt_all ho1
  clear hW0 hB0 hk0 hs0 hW1 hB1 hg hk1 hg1 hea hNL ho1 h ht hz
  go_enter Tryz.func15, Tryz.ntmps15
  go_upto_region 2 with fail
  rw [HW0.out]
  rw [HW1.out]
  try rw [hxb]
  go_wp2_with fail
  refine HEA.out.mono ?_
  rintro e w5 (⟨hal, rfl, hb⟩ | ⟨hal, rfl, W2, hb2, hT1, hT2, vr, hT3, hT4⟩)
  · have HZ : Hid (aliveB n bs v = false ∧ Below w.heap.size w w5) := ⟨hal, btr HB.out.1 hb⟩
    clear hal hb c0 c1 c2 c3 c4 cs HEA
    go_wp2
    go_ret2
    exact ⟨HZ.out.2, Or.inl ⟨HZ.out.1, rfl⟩⟩
  · have hb3 := btr HB.out.1 hb2
    have hb5 : Below w.heap.size w w5 := hb3.trans (hT1.low (Nat.le_of_lt HB.out.2) hb3.size)
    obtain ⟨ao, ac, hv⟩ := ssr_slice hT4
    subst hv
    have HZ : Hid (aliveB n bs v = true ∧ Below w.heap.size w w5 ∧ w5.ownsRow w.heap.size 89 3 (.slice ao NL.length ac) NL.length (flatS NL)) := ⟨hal, hb5, rowX_base hT4 hb3.size⟩
    have d0 : w5.cell? ⟨xb, 0, none⟩ = some (.slice ao NL.length ac) := by simp [World.cell?, hT3]
    have ds := lt_of_get hT3
    clear hal hb2 hT1 hT2 hT3 hT4 hb3 hb5 c0 c1 c2 c3 c4 cs HEA
    go_wp2
    go_ret2
    exact ⟨HZ.out.2.1, Or.inr ⟨HZ.out.1, ao, ac, rfl, HZ.out.2.2⟩⟩
set_option maxRecDepth 100000 in
set_option maxHeartbeats 8000000 in
theorem diff_calls (h : IsOv PX B0 w pb n bs R nodes arcs) (ht : Tied n bs R zs) (hz : ZB zs) (hn : n ≤ 512) (v o0 o1 o2 o3 o4 : Int) :
    Calls Tryz.prog 23 #[.pointer (some ⟨pb, 0, none⟩), .int .i64 v, .agg #[.int .i64 o0, .int .i64 o1, .int .i64 o2, .int .i64 o3, .int .i64 o4]] w fun e w' => Below w.heap.size w w' ∧
      ((aliveB n bs v = false ∧ e = .returned (.tuple #[.int .i64 0, .iface 104 (.int .i64 7)])) ∨
       (aliveB n bs v = true ∧ e = .returned (.tuple #[.int .i64 (((needL n bs R v (min (max o0 0) 1048576) (min (max o1 0) 1048576)).length : Int) - ((outM n bs R false v).length : Int) - ((outM n bs R true v).length : Int)), .nilIface]))) := by
  obtain ⟨W0, hW0⟩ : ∃ W0, w.alloc (optObj o0 o1 o2 o3 o4) = W0 := ⟨_, rfl⟩
  have HW0 : Hid (w.alloc (.cells #[.int .i64 o0, .int .i64 o1, .int .i64 o2, .int .i64 o3, .int .i64 o4] 27) = W0) := hW0
  have hB0 : Below w.heap.size w W0 := by rw [← hW0]; exact bel_one _ _
  have hk0 : W0.heap[w.heap.size]? = some (optObj o0 o1 o2 o3 o4) := by rw [← hW0]; exact heap_new _ _
  have hs0 : W0.heap.size = w.heap.size + 1 := by rw [← hW0]; simp
  obtain ⟨xb, hxb⟩ : ∃ xb, w.heap.size + 1 = xb := ⟨_, rfl⟩
  obtain ⟨W1, hW1⟩ : ∃ W1, W0.alloc (.cells #[.int .i64 0] 3) = W1 := ⟨_, rfl⟩
  have HW1 : Hid (W0.alloc (.cells #[.int .i64 0] 3) = W1) := hW1
  have hB1 : Below W0.heap.size W0 W1 := by rw [← hW1]; exact bel_one _ _
  have hg := (h.keep hB0).guard (.cells #[.int .i64 0] 3 (0, 0))
  have hk1 : W1.heap[xb]? = some (.cells #[.int .i64 0] 3 (0, 0)) := by rw [← hW1, ← hxb, ← hs0]; exact heap_new _ _
  rw [hs0, hxb] at hg
  have hg1 : IsOv (P1 xb (.cells #[.int .i64 0] 3 (0, 0))) B0 W1 pb n bs R nodes arcs := by rw [← hW1]; exact hg
  have hea := each_calls (F := 38) (T := 3) hg1 ht hz hn v o0 o1 o2 o3 o4 (enters_of Tryz.func38 (by kernel_rfl) rfl) (TKd xb)
    (fun W2 hb => by
      have hx := (hb.block _ (lt_of_get hk1)).trans hk1
      exact ⟨Frm.refl hx, lt_of_get hx, hx⟩)
    (fun W2 wx wy L hT hb => hT.keep hb) (fun W2 wx L hT => hT.1) (fun W2 wx L so sc xs hT hs hc hl => diff1_calls hT hl)
  have hNLl : (needL n bs R v (min (max o0 0) 1048576) (min (max o1 0) 1048576)).length ≤ 262144 := by
    have h1 := flat_len (needI n bs R v (min (max o0 0) 1048576) (min (max o1 0) 1048576)) n (outM n bs R true v) (needI_len h.inv v _ _)
    have h2 := half_few h.inv true v
    have h3 := Nat.mul_le_mul (Nat.le_trans h2 hn) hn
    unfold needL
    omega
  obtain ⟨NL, hNL⟩ : ∃ NL, needL n bs R v (min (max o0 0) 1048576) (min (max o1 0) 1048576) = NL := ⟨_, rfl⟩
  rw [hNL] at hea hNLl ⊢
  have HEA : Hid (type_of% hea) := hea
  have HB : Hid (Below w.heap.size w W1 ∧ w.heap.size < xb) := ⟨btr hB0 hB1, by omega⟩
  have HOV : Hid (∀ W2 wx, Below W1.heap.size W1 W2 → Frm xb 3 W2 wx → ∃ o', IsOv (P1 xb o') B0 wx pb n bs R nodes arcs) := fun W2 wx hb hf => isov_frm (hg1.keep hb) hf
  have HLN : Hid (NL.length ≤ 262144 ∧ (outM n bs R false v).length ≤ 512 ∧ (outM n bs R true v).length ≤ 512) := ⟨hNLl, Nat.le_trans (half_few h.inv false v) hn, Nat.le_trans (half_few h.inv true v) hn⟩
  have ho1 := (hB1.block _ (lt_of_get hk0)).trans hk0
  obtain ⟨c0, c1, cs⟩ := opt_cells ho1
  obtain ⟨c2, c3, c4⟩ := opt_all ho1
  clear hW0 hB0 hk0 hs0 hW1 hB1 hg hk1 hg1 hea hNL ho1 h ht hz hNLl
  go_enter Tryz.func23, Tryz.ntmps23
  go_upto_region 2 with fail
  rw [HW0.out]
  rw [HW1.out]
  try rw [hxb]
  go_wp2_with fail
  refine HEA.out.mono ?_
  rintro e w5 (⟨hal, rfl, hb⟩ | ⟨hal, rfl, W2, hb2, hT1, hT2, hT3⟩)
  · have HZ : Hid (aliveB n bs v = false ∧ Below w.heap.size w w5) := ⟨hal, btr HB.out.1 hb⟩
    clear hal hb c0 c1 c2 c3 c4 cs HEA
    go_wp2
    go_ret2
    exact ⟨HZ.out.2, Or.inl ⟨HZ.out.1, rfl⟩⟩
  · have hb3 := btr HB.out.1 hb2
    have hb5 : Below w.heap.size w w5 := hb3.trans (hT1.low (Nat.le_of_lt HB.out.2) hb3.size)
    obtain ⟨o', hov⟩ := HOV.out W2 w5 hb2 hT1
    have HZ : Hid (aliveB n bs v = true ∧ Below w.heap.size w w5) := ⟨hal, hb5⟩
    have HQ : Hid (∀ wx, Below w5.heap.size w5 wx → IsOv (P1 xb o') B0 wx pb n bs R nodes arcs ∧ wx.cell? ⟨xb, 0, none⟩ = some (.int .i64 (NL.length : Int)) ∧ xb < wx.heap.size) := fun wx hx => by
      have hq := (hx.block _ (lt_of_get hT3)).trans hT3
      exact ⟨hov.keep hx, by simp [World.cell?, hq], lt_of_get hq⟩
    have HOU : Hid (∀ wx, Below w5.heap.size w5 wx → Calls Tryz.prog 11 #[.pointer (some ⟨pb, 0, none⟩), .int .i64 v] wx fun e w' => ∃ so sc, e = .returned (.slice so (outM n bs R false v).length sc) ∧ Below wx.heap.size wx w') := fun wx hx => (out_own (HQ.out wx hx).1 hal).mono fun e w' ⟨so, sc, he, _, hb⟩ => ⟨so, sc, he, hb⟩
    have HIN : Hid (∀ wx, Below w5.heap.size w5 wx → Calls Tryz.prog 39 #[.pointer (some ⟨pb, 0, none⟩), .int .i64 v] wx fun e w' => ∃ so sc, e = .returned (.slice so (outM n bs R true v).length sc) ∧ Below wx.heap.size wx w') := fun wx hx => (in_own (HQ.out wx hx).1 hal).mono fun e w' ⟨so, sc, he, _, hb⟩ => ⟨so, sc, he, hb⟩
    obtain ⟨_, d0, ds⟩ := HQ.out w5 (Below.refl _ _)
    generalize hlo : (outM n bs R false v).length = lo at *
    generalize hli : (outM n bs R true v).length = li at *
    generalize hln : NL.length = ln at *
    have HEQ : Hid ((outM n bs R false v).length = lo ∧ (outM n bs R true v).length = li ∧ NL.length = ln) := ⟨hlo, hli, hln⟩
    clear hlo hli hln
    have iw1 : IntKind.i64.wrap ((ln : Int) - (lo : Int)) = (ln : Int) - (lo : Int) := by have := HLN.out; rw [IntKind.wrap_i64] <;> omega
    have iw2 : IntKind.i64.wrap ((ln : Int) - (lo : Int) - (li : Int)) = (ln : Int) - (lo : Int) - (li : Int) := by have := HLN.out; rw [IntKind.wrap_i64] <;> omega
    clear hal hb2 hT1 hT2 hT3 hb3 hb5 hov c0 c1 c2 c3 c4 cs HEA
    go_wp2_with fail
    go_region_held3 (fun w' => w'.cell? ⟨xb, 0, none⟩ = some (.int .i64 (ln : Int))) (go_keep) (first
      | (go_at_call 39; refine (HIN.out _ (by first | exact Y1.out | exact Y1.out.drew)).mono ?_; rintro e y2 ⟨so2, sc2, rfl, hy⟩; have Y2 : Hid (Below w5.heap.size w5 y2) := (by first | exact btr Y1.out hy | exact btr Y1.out.drew hy); clear d0 ds; obtain ⟨_, d0, ds⟩ := HQ.out y2 Y2.out; clear hy)
      | (go_at_call 11; refine (HOU.out _ (by first | exact Below.refl _ _ | exact (Below.refl _ _).drew)).mono ?_; rintro e y1 ⟨so1, sc1, rfl, hy⟩; have Y1 : Hid (Below w5.heap.size w5 y1) := (by first | exact hy | exact btr (Below.refl _ _).drew hy); clear d0 ds; obtain ⟨_, d0, ds⟩ := HQ.out y1 Y1.out; clear hy))
    all_goals
      go_wp2
      go_ret2
      exact ⟨btr HZ.out.2 Y2.out, Or.inr ⟨HZ.out.1, by rw [HEQ.out.1, HEQ.out.2.1, HEQ.out.2.2]; rfl⟩⟩
end
end Go.Proofs.YtbkclhaonbjobaaGreat.Wt

namespace Go.Proofs.YtbkclhaonbjobaaGreat.Wt
open Go Go.RowKit Go.Extern Go.Deep

attribute [local go_sem] Oper.semAt_some

theorem infoRS : (Tryz.prog.info? 67).map (fun i => (i.zero, i.size, i.bytes)) = some (some (.agg #[.int .i64 0, .int .i64 0, .int .u64 0]), 3, 24) := by kernel_rfl
theorem infoRS' : ∃ i, Tryz.prog.info? 67 = some i ∧ i.zero = some (.agg #[.int .i64 0, .int .i64 0, .int .u64 0]) ∧ i.size = 3 ∧ i.bytes = 24 := by
  have h := infoRS
  cases hi : Tryz.prog.info? 67 with
  | none => rw [hi] at h; cases h
  | some i => rw [hi] at h; simp at h; exact ⟨i, rfl, h.1, h.2.1, h.2.2⟩
/-- append of the document's shortcuts onto a row of the call's own. -/
theorem wpList_append_rs {w : World} {ops : Array Oper} {rest : List Oper} {o : Oper} {a : Act} {Q : Exit → Act → World → Prop} (hgd : o.guard = none) (s x : Operand)
    (ho : o.op = .call { callee := .builtin .append, args := #[s, x], argTypes := #[60, 60] })
    (base : Nat) (v : Value) (L : List S3) (hs : a.eval s = v) (hown : w.ownsRow base 67 3 v L.length (flatS L))
    (ad : Addr) (ac : Nat) (xs : List S3) (hx : a.eval x = .slice (some ad) xs.length ac) (hl : HasSs w (.slice (some ad) xs.length ac) xs)
    (hlen : L.length + xs.length ≤ 1048576) (hbase : base ≤ w.heap.size)
    (h : ∀ v' w', w'.ownsRow base 67 3 v' (L ++ xs).length (flatS (L ++ xs)) → w.grownBy w' v.ownBlock → wpList Tryz.prog ops Q rest (a.put o.dst v') w') : wpList Tryz.prog ops Q (o :: rest) a w := by
  obtain ⟨i0, hi, hz0, hz1, hz2⟩ := infoRS'
  refine wpList_append_own _ hgd s x 60 ho base 67 i0 _ 3 24 Tryz.underlying60 hi hz0 hz1 hz2 rfl (by decide) v L.length (flatS L) hs hown ad xs.length ac (flatS xs) hx (flatS_len xs) (flatS_at hl) (flatS_one xs) (by unfold maxLen; omega) (by omega) hbase ?_
  intro v' w' h1 h2 _
  exact h v' w' (by rw [List.length_append, flatS_append]; exact h1) h2
set_option maxRecDepth 100000 in
set_option maxHeartbeats 8000000 in
theorem of13_calls (so : Option Addr) (sc : Nat) (L : List S3) (w : World) (hs : HasSs w (.slice so L.length sc) L) (hl : L.length ≤ 1000000) :
    Calls Tryz.prog 21 #[.slice so L.length sc] w fun e w' => ∃ ro rc, e = .returned (.slice ro L.length rc) ∧ w'.ownsRow w.heap.size 67 3 (.slice ro L.length rc) L.length (flatS L) ∧ Below w.heap.size w w' := by
  have HS : Hid (HasSs w (.slice so L.length sc) L) := hs
  clear hs
  go_enter Tryz.func21, Tryz.ntmps21
  go_wp2_with fail
  go_loopw [8, 3] (fun iv lv wr => ∃ k ro rc, k ≤ L.length ∧ iv = .int .i64 (k : Nat) ∧ lv = .slice ro (L.take k).length rc ∧ wr.ownsRow w.heap.size 67 3 (.slice ro (L.take k).length rc) (L.take k).length (flatS (L.take k)) ∧ Below w.heap.size w wr) (fun iv _ _ => L.length - (intOf iv).toNat)
  case atStart => exact ⟨0, none, 0, Nat.zero_le _, rfl, by simp, by rw [List.take_zero]; exact World.ownsRow_nil _ _ _ _, Below.refl _ _⟩
  case round =>
    obtain ⟨k, ro, rc, hk, rfl, rfl, ho, hb⟩ := hrel
    have HR : Hid (type_of% (And.intro ho hb)) := ⟨ho, hb⟩
    clear ho hb
    by_cases hlt : k < L.length
    · obtain ⟨a, ha⟩ : ∃ a, L[k]? = some a := ⟨L[k], List.getElem?_eq_getElem hlt⟩
      obtain ⟨b, off, rfl, bl, c0, c1, c2⟩ := (HS.out.keep HR.out.2).at ha
      have HT : Hid (L.take (k + 1) = L.take k ++ [a]) := by show _ = _; rw [List.take_add_one, ha]; rfl
      have HKL : Hid ((L.take k).length ≤ k) := by show _ ≤ _; rw [List.length_take]; omega
      obtain ⟨a0, a1, a2⟩ := a
      simp only at c0 c1 c2
      obtain ⟨W2, hW2⟩ : ∃ W2, wr.alloc (.cells #[.int .i64 a0, .int .i64 a1, .int .u64 a2] 89) = W2 := ⟨_, rfl⟩
      have HW2 : Hid (wr.alloc (.cells #[.int .i64 a0, .int .i64 a1, .int .u64 a2] 89) = W2) := hW2
      have hb2 : Below wr.heap.size wr W2 := by rw [← hW2]; exact bel_one _ _
      have k2 : W2.heap[wr.heap.size]? = some (.cells #[.int .i64 a0, .int .i64 a1, .int .u64 a2] 89) := by rw [← hW2]; exact heap_new _ _
      have e0 : W2.cell? ⟨wr.heap.size, 0, none⟩ = some (.int .i64 a0) := by simp [World.cell?, k2]
      have e1 : W2.cell? ⟨wr.heap.size, 1, none⟩ = some (.int .i64 a1) := by simp [World.cell?, k2]
      have e2 : W2.cell? ⟨wr.heap.size, 2, none⟩ = some (.int .u64 a2) := by simp [World.cell?, k2]
      have es := lt_of_get k2
      have hb3 : Below wr.heap.size wr (W2.alloc (.cells #[.int .i64 a0, .int .i64 a1, .int .u64 a2] 67)) := btr hb2 (bel_one _ _)
      have HAP : Hid ((W2.alloc (.cells #[.int .i64 a0, .int .i64 a1, .int .u64 a2] 67)).ownsRow w.heap.size 67 3 (.slice ro (L.take k).length rc) (L.take k).length (flatS (L.take k)) ∧ HasSs (W2.alloc (.cells #[.int .i64 a0, .int .i64 a1, .int .u64 a2] 67)) (.slice (some ⟨W2.heap.size, 0, none⟩) 1 1) [(a0, a1, a2)] ∧ w.heap.size ≤ (W2.alloc (.cells #[.int .i64 a0, .int .i64 a1, .int .u64 a2] 67)).heap.size ∧ Below w.heap.size w (W2.alloc (.cells #[.int .i64 a0, .int .i64 a1, .int .u64 a2] 67))) := ⟨row_below9 HR.out.1 hb3, ss_one W2 (a0, a1, a2) _, Nat.le_trans HR.out.2.size hb3.size, btr HR.out.2 hb3⟩
      have i1 : (k : Int) < (L.length : Int) := by omega
      have i2 : (0 : Int) ≤ (k : Int) := by omega
      clear ha hW2 hb2 k2 hb3
      go_upto_region 5 with fail
      rw [HW2.out]
      clear c0 c1 c2 bl
      generalize L.take k = M at *
      go_wp2_with (at_builtin; refine wpList_append_rs rfl _ _ rfl w.heap.size (.slice ro M.length rc) M rfl HAP.out.1 ⟨W2.heap.size, 0, none⟩ 1 [(a0, a1, a2)] rfl HAP.out.2.1 (by have := HKL.out; simp only [List.length_cons, List.length_nil]; omega) HAP.out.2.2.1 ?_; intro v3 w3 hown3 hgr3; obtain ⟨qo, qc, hv3⟩ := ssr_slice hown3; subst hv3; have Y3 : Hid (w3.ownsRow w.heap.size 67 3 (.slice qo (M ++ [(a0, a1, a2)]).length qc) (M ++ [(a0, a1, a2)]).length (flatS (M ++ [(a0, a1, a2)])) ∧ Below w.heap.size w w3) := ⟨hown3, below_grown9 (v := Value.slice ro M.length rc) HAP.out.2.2.2 HAP.out.1 hgr3 HAP.out.2.2.1 (Nat.le_refl _)⟩; clear hown3 hgr3)
      go_roundw
      case rel => exact ⟨k + 1, qo, qc, by omega, by go_num, by rw [HT.out, List.length_append]; rfl, by rw [HT.out]; exact Y3.out.1, Y3.out.2⟩
      case measure => simp [intOf]; omega
    · obtain rfl : k = L.length := by omega
      rw [List.take_length] at HR ⊢
      go_wp2
      go_ret
      exact ⟨ro, rc, rfl, HR.out⟩
set_option maxRecDepth 100000 in
set_option maxHeartbeats 8000000 in
theorem same13_yes (ao bo : Option Addr) (ac bc : Nat) (L : List S3) (w : World) (ha : HasSs w (.slice ao L.length ac) L) (hb : HasSs w (.slice bo L.length bc) L) (hl : L.length ≤ 1000000) :
    Calls Tryz.prog 20 #[.slice ao L.length ac, .slice bo L.length bc] w fun e w' => e = .returned (.bool true) ∧ Below w.heap.size w w' := by
  have HS : Hid (HasSs w (.slice ao L.length ac) L ∧ HasSs w (.slice bo L.length bc) L) := ⟨ha, hb⟩
  clear ha hb
  go_enter Tryz.func20, Tryz.ntmps20
  go_wp2_with fail
  go_loopw [13] (fun iv wr => ∃ k : Nat, k ≤ L.length ∧ iv = .int .i64 k ∧ Below w.heap.size w wr) (fun iv _ => L.length - (intOf iv).toNat)
  case atStart => exact ⟨0, Nat.zero_le _, rfl, Below.refl _ _⟩
  case round =>
    obtain ⟨k, hk, rfl, hb⟩ := hrel
    have HR : Hid (Below w.heap.size w wr) := hb
    by_cases hlt : k < L.length
    · obtain ⟨a, ha⟩ : ∃ a, L[k]? = some a := ⟨L[k], List.getElem?_eq_getElem hlt⟩
      obtain ⟨b, off, rfl, bl, c0, c1, c2⟩ := (HS.out.1.keep hb).at ha
      obtain ⟨b', off', rfl, bl', d0, d1, d2⟩ := (HS.out.2.keep hb).at ha
      obtain ⟨a0, a1, a2⟩ := a
      simp only at c0 c1 c2 d0 d1 d2
      have i1 : (k : Int) < (L.length : Int) := by omega
      have i2 : (0 : Int) ≤ (k : Int) := by omega
      clear ha hb
      go_wp2_with fail
      go_quiet (fail)
      have HB8 : Hid (Below w.heap.size w (wr.drewN nq)) := below_drewN HR.out nq
      go_wp2
      go_roundw
      case rel => exact ⟨k + 1, by omega, by go_num, HB8.out⟩
      case measure => simp [intOf]; omega
    · go_wp2
      go_ret
      exact ⟨rfl, HR.out⟩
/-- what is told of rows, whatever their places. -/
theorem outM_new {n : Nat} {bs : List Bool} {R : Bool → Nat → Rw} {zs : List (Int × Int × Int)} (hR : ∀ s u, u < n → (R s u).2 = (sideL s zs u, 0)) : outM n bs R = outM n bs (newR zs) := by
  funext s x
  unfold outM
  split
  · rename_i h
    obtain ⟨u, rfl, hu, _⟩ := aliveB_iff.1 h
    rw [Int.toNat_natCast]
    unfold rowL
    rw [hR s u hu]
    rfl
  · rfl
theorem weightM_new {n : Nat} {bs : List Bool} {R : Bool → Nat → Rw} {zs : List (Int × Int × Int)} (hR : ∀ s u, u < n → (R s u).2 = (sideL s zs u, 0)) : weightM n bs R = weightM n bs (newR zs) := by
  funext x y
  unfold weightM
  split
  · rename_i h
    simp only [Bool.and_eq_true] at h
    obtain ⟨u, rfl, hu, _⟩ := aliveB_iff.1 h.1
    rw [Int.toNat_natCast, hR false u hu]
    rfl
  · rfl
theorem needL_new {n : Nat} {bs : List Bool} {R : Bool → Nat → Rw} {zs : List (Int × Int × Int)} (hR : ∀ s u, u < n → (R s u).2 = (sideL s zs u, 0)) : needL n bs R = needL n bs (newR zs) := by
  funext v hp sp
  unfold needL
  rw [outM_new hR]
  congr 1
  funext i
  unfold needI dearL dearB hasA
  rw [outM_new hR, rowW_new hR, weightM_new hR]
theorem q_one : needL 4 bsQ (newR zsQ) 1 5 5 = [(0, 2, 5)] := by kernel_rfl
theorem q_two : needL 4 bsQ (newR zsQ) 2 5 5 = [(0, 3, 11), (1, 3, 3)] ∧ (outM 4 bsQ (newR zsQ) false 2).length = 1 ∧ (outM 4 bsQ (newR zsQ) true 2).length = 2 := ⟨by kernel_rfl, by kernel_rfl, by kernel_rfl⟩
/-- an overlay of the law's graph, with its rows. -/
def FourR (w : World) (B pb : Nat) : Prop := ∃ R, IsOv noP B w pb 4 bsQ R 4 4 ∧ Tied 4 bsQ R (zsQ.map asA4) ∧ ZB (zsQ.map asA4) ∧ ∀ s u, u < 4 → (R s u).2 = (sideL s zsQ u, 0)
theorem FourR.keep {w w' : World} {B pb : Nat} (h : FourR w B pb) (hb : Below w.heap.size w w') : FourR w' B pb := by
  obtain ⟨R, h1, h2⟩ := h
  exact ⟨R, h1.keep hb, h2⟩
theorem newR_calls {w : World} {ab : Nat} (h : HasArcs w (.slice (some ⟨ab, 0, none⟩) 4 4) xsQ) : Calls Tryz.prog 7 #[.agg #[.int .i64 4, .slice (some ⟨ab, 0, none⟩) 4 4]] w fun e w' => ∃ pb, e = .returned (.tuple #[.pointer (some ⟨pb, 0, none⟩), .nilIface]) ∧ FourR w' w.heap.size pb ∧ Below w.heap.size w w' := by
  refine (ov_new (n := 4) (some ⟨ab, 0, none⟩) 4 4 xsQ w h xsQ_good).mono ?_
  rintro e w' ⟨pb, R, rfl, h1, h2, h3⟩
  rw [xsQ_norm] at h1 h2
  refine ⟨pb, rfl, ⟨R, h1, tied_new (n := 4) (by unfold zsQ Go.Proofs.YtbkclhaonbjobaaGreat.RiseA Go.Proofs.YtbkclhaonbjobaaGreat.lessA; decide) (by unfold zsQ; decide) (by unfold zsQ; decide) h2, ?_, h2⟩, h3⟩
  intro a ha
  unfold zsQ asA4 at ha
  simp at ha
  rcases ha with rfl | rfl | rfl | rfl <;> exact ⟨by decide, by decide⟩
theorem FourR.need {w : World} {B pb : Nat} (h : FourR w B pb) (v : Int) (hv : aliveB 4 bsQ v = true) : Calls Tryz.prog 15 #[.pointer (some ⟨pb, 0, none⟩), .int .i64 v, .agg #[.int .i64 5, .int .i64 5, .int .i64 0, .int .i64 0, .int .i64 0]] w fun e w' => Below w.heap.size w w' ∧ ∃ so sc, e = .returned (.tuple #[.slice so (needL 4 bsQ (newR zsQ) v 5 5).length sc, .nilIface]) ∧ HasSs w' (.slice so (needL 4 bsQ (newR zsQ) v 5 5).length sc) (needL 4 bsQ (newR zsQ) v 5 5) := by
  obtain ⟨R, h1, h2, h3, h4⟩ := h
  refine (need_calls h1 h2 h3 (by omega) v 5 5 0 0 0).mono ?_
  rw [show min (max (5 : Int) 0) 1048576 = 5 by decide, needL_new h4]
  rintro e w' ⟨hb, ⟨hn, _⟩ | ⟨_, so, sc, rfl, ho⟩⟩
  · rw [hv] at hn; cases hn
  · exact ⟨hb, so, sc, rfl, ss_of_row ho⟩
theorem FourR.diff {w : World} {B pb : Nat} (h : FourR w B pb) (v : Int) (hv : aliveB 4 bsQ v = true) : Calls Tryz.prog 23 #[.pointer (some ⟨pb, 0, none⟩), .int .i64 v, .agg #[.int .i64 5, .int .i64 5, .int .i64 0, .int .i64 0, .int .i64 0]] w fun e w' => Below w.heap.size w w' ∧ e = .returned (.tuple #[.int .i64 (((needL 4 bsQ (newR zsQ) v 5 5).length : Int) - ((outM 4 bsQ (newR zsQ) false v).length : Int) - ((outM 4 bsQ (newR zsQ) true v).length : Int)), .nilIface]) := by
  obtain ⟨R, h1, h2, h3, h4⟩ := h
  refine (diff_calls h1 h2 h3 (by omega) v 5 5 0 0 0).mono ?_
  rw [show min (max (5 : Int) 0) 1048576 = 5 by decide, needL_new h4, outM_new h4]
  rintro e w' ⟨hb, ⟨hn, _⟩ | ⟨_, rfl⟩⟩
  · rw [hv] at hn; cases hn
  · exact ⟨hb, rfl⟩
set_option maxRecDepth 100000 in
set_option maxHeartbeats 8000000 in
theorem awake13_calls (w : World) : Calls Tryz.prog 5 #[] w fun e w' => e = .returned (.bool true) ∧ Below w.heap.size w w' := by
  go_enter Tryz.func5, Tryz.ntmps5
  go_wp2_with fail
  refine (four12_calls w).mono ?_
  rintro e w1 ⟨ab, rfl, hA, hb1⟩
  have H1 : Hid (HasArcs w1 (.slice (some ⟨ab, 0, none⟩) 4 4) xsQ ∧ Below w.heap.size w w1) := ⟨hA, hb1⟩
  clear hA hb1
  go_wp2_with fail
  refine (newR_calls H1.out.1).mono ?_
  rintro e w2 ⟨pb, rfl, hO, hb2⟩
  have H2 : Hid (FourR w2 w1.heap.size pb ∧ Below w.heap.size w w2) := ⟨hO, btr H1.out.2 hb2⟩
  clear hO hb2 H1
  have hn := H2.out.1.need 1 (by decide)
  rw [q_one] at hn
  have HN : Hid (type_of% hn) := hn
  clear hn
  go_wp2_with fail
  refine HN.out.mono ?_
  rintro e w3 ⟨hb3, so, sc, rfl, hs3⟩
  have H3 : Hid (FourR w3 w1.heap.size pb ∧ HasSs w3 (.slice so 1 sc) [(0, 2, 5)] ∧ Below w.heap.size w w3) := ⟨H2.out.1.keep hb3, hs3, btr H2.out.2 hb3⟩
  clear hb3 hs3 HN H2
  have hd := H3.out.1.diff 2 (by decide)
  rw [q_two.1, q_two.2.1, q_two.2.2] at hd
  have HD : Hid (type_of% hd) := hd
  clear hd
  go_wp2_with fail
  refine HD.out.mono ?_
  rintro e w4 ⟨hb4, rfl⟩
  have H4 : Hid (HasSs w4 (.slice so 1 sc) [(0, 2, 5)] ∧ Below w.heap.size w w4) := ⟨H3.out.2.1.keep hb4, btr H3.out.2.2 hb4⟩
  clear hb4 HD H3
  have HOF : Hid (type_of% (of13_calls so sc [(0, 2, 5)] w4 H4.out.1 (by decide))) := of13_calls so sc [(0, 2, 5)] w4 H4.out.1 (by decide)
  go_wp2_with fail
  refine HOF.out.mono ?_
  rintro e w5 ⟨ro, rc, rfl, ho5, hb5⟩
  have hbA : Below w5.heap.size w5 (w5.alloc (.cells #[.int .i64 0, .int .i64 2, .int .u64 5] 67)) := bel_one _ _
  have HSM : Hid (type_of% (same13_yes ro (some ⟨w5.heap.size, 0, none⟩) rc 1 [(0, 2, 5)] _ ((ss_of_row ho5).keep hbA) (ss_one w5 (0, 2, 5) 67) (by decide))) := same13_yes ro (some ⟨w5.heap.size, 0, none⟩) rc 1 [(0, 2, 5)] _ ((ss_of_row ho5).keep hbA) (ss_one w5 (0, 2, 5) 67) (by decide)
  have H5 : Hid (Below w.heap.size w (w5.alloc (.cells #[.int .i64 0, .int .i64 2, .int .u64 5] 67))) := btr H4.out.2 (btr hb5 hbA)
  clear ho5 hb5 hbA HOF H4
  go_wp2_with fail
  refine HSM.out.mono ?_
  rintro e w6 ⟨rfl, hb6⟩
  have H6 : Hid (Below w.heap.size w w6) := btr H5.out hb6
  clear hb6 HSM
  go_wp2
  go_ret
  exact ⟨rfl, H6.out⟩
end Go.Proofs.YtbkclhaonbjobaaGreat.Wt
