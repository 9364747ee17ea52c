/- The document's Needed, walked. -/
import Derived.Test.YtbkclhaonbjobaaGreatDoorQwX
import Derived.Test.YtbkclhaonbjobaaGreatDoorQkX
import Derived.Test.YtbkclhaonbjobaaGreatDoorQoX
namespace Go.Proofs.YtbkclhaonbjobaaGreatDoor.Wt
open Go Go.RowKit Go.Extern Go.Deep

attribute [local go_sem] Oper.semAt_some

def uvL (l : List Int) : List Value := l.map (Value.int .u64)
theorem uvL_append (l r : List Int) : uvL (l ++ r) = uvL l ++ uvL r := by simp [uvL]
/-- two growing rows, one of ends and one of weights. -/
structure TwoI (B : Nat) (w0 wr : World) (gv : Value) (gl : List Int) (wv : Value) (wl : List Int) : Prop where
  rowG : wr.ownsRow B 3 1 gv gl.length (iv gl)
  rowW : wr.ownsRow B 66 1 wv wl.length (uvL wl)
  ne : ∀ g, gv.ownBlock = some g → wv.ownBlock ≠ some g
  below : Below B w0 wr
  base : B ≤ w0.heap.size
section
variable {B : Nat} {w0 wr wx w' : World} {gv wv v' : Value} {gl wl : List Int} {y : Int}
theorem TwoI.later (h : TwoI B w0 wr gv gl wv wl) (hb : Below wr.heap.size wr wx) : TwoI B w0 wx gv gl wv wl :=
  ⟨row_below9 h.rowG hb, row_below9 h.rowW hb, h.ne, h.below.trans (hb.mono (Nat.le_trans h.base h.below.size)), h.base⟩
theorem TwoI.addG (h : TwoI B w0 wr gv gl wv wl) (ho : w'.ownsRow B 3 1 v' (gl.length + 1) (iv gl ++ [.int .i64 y])) (hg : wr.grownBy w' gv.ownBlock) (hv : v'.ownBlock = gv.ownBlock ∨ v'.ownBlock = some wr.heap.size) : TwoI B w0 w' v' (gl ++ [y]) wv wl := by
  refine ⟨by rw [List.length_append, iv_append]; exact ho, row_keep9 h.rowW fun g hgw => hg.block g (h.rowW.lt g hgw).2 (fun e => h.ne g e.symm hgw), fun g e => ?_, below_grown9 h.below h.rowG hg (Nat.le_trans h.base h.below.size) (Nat.le_refl _), h.base⟩
  rcases hv with hv | hv
  · exact h.ne g (by rw [← hv]; exact e)
  · rw [hv] at e
    have h1 := Option.some.inj e
    intro h2
    have := (h.rowW.lt g h2).2
    omega
theorem TwoI.addW (h : TwoI B w0 wr gv gl wv wl) (ho : w'.ownsRow B 66 1 v' (wl.length + 1) (uvL wl ++ [.int .u64 y])) (hg : wr.grownBy w' wv.ownBlock) (hv : v'.ownBlock = wv.ownBlock ∨ v'.ownBlock = some wr.heap.size) : TwoI B w0 w' gv gl v' (wl ++ [y]) := by
  refine ⟨row_keep9 h.rowG fun g hga => hg.block g (h.rowG.lt g hga).2 (fun e => h.ne g hga e.symm), by rw [List.length_append, uvL_append]; exact ho, fun g e e2 => ?_, below_grown9 h.below h.rowW hg (Nat.le_trans h.base h.below.size) (Nat.le_refl _), h.base⟩
  rcases hv with hv | hv
  · exact h.ne g e (by rw [← hv]; exact e2)
  · rw [hv] at e2
    have h1 := Option.some.inj e2
    have := (h.rowG.lt g e).2
    omega
end
theorem any_slice {w : World} {B n size : Nat} {E : TypeId} {xs : List Value} {v : Value} (h : w.ownsRow B E size v n xs) : ∃ ao cap, v = .slice ao n cap := by
  rcases h.2 with ⟨h, h'⟩ | ⟨g, cap, cur, h, _⟩
  · exact ⟨none, 0, by rw [h']; exact h⟩
  · exact ⟨_, cap, h⟩
theorem own_at1 {w : World} {B n cap : Nat} {E : TypeId} {xs : List Value} {ao : Option Addr} (h : w.ownsRow B E 1 (.slice ao n cap) n xs) {j : Nat} {q : Value} (hj : xs[j]? = some q) : ∃ g, ao = some ⟨g, 0, none⟩ ∧ g < w.heap.size ∧ w.cell? ⟨g, j, none⟩ = some q := by
  have hlt := (List.getElem?_eq_some_iff.1 hj).1
  have hl := h.1
  rcases h.2 with ⟨e, h0⟩ | ⟨g, cp, cur, e, hg, hh, r⟩
  · omega
  · injection e with e1 e2 e3
    subst e1
    subst e3
    refine ⟨g, rfl, lt_of_get hh, ?_⟩
    exact (h.cellAt j (by omega)).trans (by rw [← hj])
theorem grown_keep {w0 w w' : World} {B n size k : Nat} {E : TypeId} {xs : List Value} {v : Value} (h : w0.ownsRow B E size v n xs) (hg : w.grownBy w' v.ownBlock) (h0 : w0.heap.size ≤ k) (h1 : k < w.heap.size) : w'.heap[k]? = w.heap[k]? := hg.block k h1 fun e => by have := (h.lt k e.symm).2; omega
theorem awayL_succ {i y : H3} {outs : List H3} {j : Nat} (h : outs[j]? = some y) : awayL i (outs.take (j + 1)) = awayL i (outs.take j) ++ (if y.1 = i.1 then [] else [y]) := by
  unfold awayL
  rw [List.take_add_one, h, List.filter_append]
  congr 1
  by_cases e : y.1 = i.1 <;> simp [e]
theorem awayL_len (i : H3) (outs : List H3) : (awayL i outs).length ≤ outs.length := List.length_filter_le _ _
theorem keep_succ {p : H3 → Bool} {f : H3 → S3} {G : List H3} {j : Nat} {y : H3} (h : G[j]? = some y) : ((G.take (j + 1)).filter p).map f = ((G.take j).filter p).map f ++ (if p y then [f y] else []) := by
  rw [List.take_add_one, h, List.filter_append, List.map_append]
  congr 1
  cases hp : p y <;> simp [hp]
/-- the document's overlay alone: its flags and its arcs in memory, and what rows it is told by. -/
structure RefO (w : World) (n : Nat) (bs : List Bool) (R : Bool → Nat → Rw) (zs : List A4) (av lv : Value) : Prop where
  tie : Tied n bs R zs
  inv : OvInv n bs R
  fl : HasFl w av bs
  ar : HasA4 w lv zs
  bl : bs.length = n ∧ n ≤ 65536
section
variable {w w' : World} {n : Nat} {bs : List Bool} {R : Bool → Nat → Rw} {zs : List A4} {fo ao : Option Addr} {fc ac : Nat}
theorem RefO.keep {av lv : Value} (h : RefO w n bs R zs av lv) (hb : Below w.heap.size w w') : RefO w' n bs R zs av lv := ⟨h.tie, h.inv, h.fl.keep hb, h.ar.keep hb, h.bl⟩
theorem RefO.lives (h : RefO w n bs R zs (.slice fo n fc) (.slice ao zs.length ac)) (x : Int) : Calls Tryz.prog 17 #[.agg #[.slice fo n fc, .slice ao zs.length ac], .int .i64 x] w fun e w' => e = .returned (.bool (aliveB n bs x)) ∧ Below w.heap.size w w' :=
  lives_calls fo fc n bs h.bl.1 ao zs.length ac x w h.fl h.bl.2
theorem RefO.rin (h : RefO w n bs R zs (.slice fo n fc) (.slice ao zs.length ac)) (hz : zs.length ≤ 262144) (x : Int) : Calls Tryz.prog 38 #[.agg #[.slice fo n fc, .slice ao zs.length ac], .int .i64 x] w fun e w' => ∃ so sc, e = .returned (.slice so (outM n bs R true x).length sc) ∧ HasHs w' (.slice so (outM n bs R true x).length sc) (outM n bs R true x) ∧ Below w.heap.size w w' := by
  have h1 := rIn11_calls (.slice fo n fc) ao ac zs x w h.ar hz (sideA_pw h.tie.one _ _) _ _ _ rfl
  rw [h.tie.outM h.inv] at h1
  exact h1
theorem RefO.rout (h : RefO w n bs R zs (.slice fo n fc) (.slice ao zs.length ac)) (hz : zs.length ≤ 262144) (x : Int) : Calls Tryz.prog 39 #[.agg #[.slice fo n fc, .slice ao zs.length ac], .int .i64 x] w fun e w' => ∃ so sc, e = .returned (.slice so (outM n bs R false x).length sc) ∧ HasHs w' (.slice so (outM n bs R false x).length sc) (outM n bs R false x) ∧ Below w.heap.size w w' := by
  have h1 := rOut11_calls (.slice fo n fc) ao ac zs x w h.ar hz (sideA_pw h.tie.one _ _) _ _ _ rfl
  rw [h.tie.outM h.inv] at h1
  exact h1
theorem RefO.routO (h : RefO w n bs R zs (.slice fo n fc) (.slice ao zs.length ac)) (hz : zs.length ≤ 262144) (x : Int) : Calls Tryz.prog 39 #[.agg #[.slice fo n fc, .slice ao zs.length ac], .int .i64 x] w fun e w' => ∃ so sc, e = .returned (.slice so (outM n bs R false x).length sc) ∧ w'.ownsRow w.heap.size 108 3 (.slice so (outM n bs R false x).length sc) (outM n bs R false x).length (flatH (outM n bs R false x)) ∧ Below w.heap.size w w' := by
  have h1 := rOut11_own (.slice fo n fc) ao ac zs x w h.ar hz (sideA_pw h.tie.one _ _) _ _ _ rfl
  rw [h.tie.outM h.inv] at h1
  exact h1
theorem RefO.rweight (h : RefO w n bs R zs (.slice fo n fc) (.slice ao zs.length ac)) (hz : zs.length ≤ 262144) (x y : Int) : Calls Tryz.prog 58 #[.agg #[.slice fo n fc, .slice ao zs.length ac], .int .i64 x, .int .i64 y] w fun e w' => e = .returned (.tuple #[.int .u64 ((weightM n bs R x y).getD 0), .bool (weightM n bs R x y).isSome]) ∧ Below w.heap.size w w' := by
  have h1 := rWeight11_calls (.slice fo n fc) ao ac zs x y w h.ar hz _ _ _ rfl
  rw [h.tie.weight h.inv]
  exact h1
end
section
variable {w : World} {n : Nat} {bs : List Bool} {R : Bool → Nat → Rw} {zs : List A4} {fo ao : Option Addr} {fc ac : Nat}
theorem ref_rfind (h : RefO w n bs R zs (.slice fo n fc) (.slice ao zs.length ac)) (hz : zs.length ≤ 262144) (hb : ZB zs) (hn : n ≤ 512) (u : Nat) (hu : u < n) (skip : Int) (go : Option Addr) (gc : Nat) (gs : List Int) (hg : HasInts w (.slice go gs.length gc) gs) (hgs : ∀ g ∈ gs, ∃ v : Nat, g = (v : Int) ∧ v < n) (hl : gs.length ≤ 1000) (mo hops se : Int) :
    Calls Tryz.prog 57 #[.agg #[.slice fo n fc, .slice ao zs.length ac], .int .i64 (u : Int), .int .i64 skip, .slice go gs.length gc, .int .u64 mo, .int .i64 hops, .int .i64 se] w fun e w' => ∃ v, e = .returned v ∧ w'.ownsRow w.heap.size 66 1 v (gs.map (goalF n (rowsZ (rowW n bs R) skip n) u hops se mo)).length (uvL (gs.map (goalF n (rowsZ (rowW n bs R) skip n) u hops se mo))) ∧ Below w.heap.size w w' := by
  have hr := rowsW_tied h.tie h.inv hb
  refine (rFind_calls fo ao fc zs.length ac n (rowW n bs R) skip (fun wx hx v hv => ?_) hr hn u hu go gc gs hg hgs hl mo hops se).mono ?_
  · have h1 := (h.keep hx).rout hz (v : Int)
    rw [outM_row] at h1
    exact h1
  · rintro e w' ⟨v, rfl, ho, hb'⟩
    rw [findL_is] at ho
    exact ⟨v, rfl, by rw [List.length_map]; exact ho, hb'⟩
set_option maxRecDepth 100000 in
set_option maxHeartbeats 64000000 in
theorem rneed_calls (h : RefO w n bs R zs (.slice fo n fc) (.slice ao zs.length ac)) (hzl : zs.length ≤ 200000) (hz : ZB zs) (hn : n ≤ 12) (v o0 o1 o2 o3 o4 : Int) :
    Calls Tryz.prog 33 #[.agg #[.slice fo n fc, .slice ao zs.length ac], .int .i64 v, .agg #[.int .i64 o0, .int .i64 o1, .int .i64 o2, .int .i64 o3, .int .i64 o4]] w fun e w' => ∃ so sc, e = .returned (.slice so (needL n bs R v (min (max o0 0) 1048576) (min (max o1 0) 1048576)).length sc) ∧ w'.ownsRow w.heap.size 68 3 (.slice so (needL n bs R v (min (max o0 0) 1048576) (min (max o1 0) 1048576)).length sc) (needL n bs R v (min (max o0 0) 1048576) (min (max o1 0) 1048576)).length (flatS (needL n bs R v (min (max o0 0) 1048576) (min (max o1 0) 1048576))) ∧ Below w.heap.size w w' := by
  obtain ⟨W0, hW0⟩ : ∃ W0, (w.alloc (.cells #[.slice fo n fc, .slice ao zs.length ac] 33)).alloc (optObj o0 o1 o2 o3 o4) = W0 := ⟨_, rfl⟩
  obtain ⟨hbx, hk0, hB0⟩ := two_new w (.cells #[.slice fo n fc, .slice ao zs.length ac] 33) (optObj o0 o1 o2 o3 o4)
  rw [hW0] at hbx hk0 hB0
  have HW0 : Hid ((w.alloc (.cells #[.slice fo n fc, .slice ao zs.length ac] 33)).alloc (.cells #[.int .i64 o0, .int .i64 o1, .int .i64 o2, .int .i64 o3, .int .i64 o4] 27) = W0) := hW0
  have HG : Hid (∀ wx, Below W0.heap.size W0 wx → (wx.cell? ⟨w.heap.size, 0, none⟩ = some (.slice fo n fc) ∧ wx.cell? ⟨w.heap.size, 1, none⟩ = some (.slice ao zs.length ac) ∧ w.heap.size < wx.heap.size) ∧ RefO wx n bs R zs (.slice fo n fc) (.slice ao zs.length ac) ∧ Below w.heap.size w wx) := fun wx hwx => by
    have hgg := (hwx.block _ (lt_of_get hbx)).trans hbx
    have hb := hB0.trans (hwx.mono hB0.size)
    exact ⟨⟨(cell_two hgg).1, (cell_two hgg).2.1, lt_of_get hgg⟩, h.keep hb, hb⟩
  have hrb := fun wx => rbounds_calls o0 o1 o2 o3 o4 wx
  have HTI : Hid (Tied n bs R zs ∧ OvInv n bs R ∧ ZB zs ∧ zs.length ≤ 200000 ∧ n ≤ 12) := ⟨h.tie, h.inv, hz, hzl, hn⟩
  obtain ⟨hp, hhp⟩ : ∃ hp, min (max o0 0) 1048576 = hp := ⟨_, rfl⟩
  obtain ⟨sp, hsp⟩ : ∃ sp, min (max o1 0) 1048576 = sp := ⟨_, rfl⟩
  simp only [hhp, hsp] at hrb
  rw [hhp, hsp]
  have HRB : Hid (type_of% hrb) := hrb
  have HND : Hid (needL n bs R v hp sp = (outM n bs R true v).flatMap (needI n bs R v hp sp)) := rfl
  have HNI : Hid (∀ i ∈ outM n bs R true v, ((awayL i (outM n bs R false v)).filter (keepB n bs R v hp sp (mostG i (awayL i (outM n bs R false v))) i)).map (wayOf i) = needI n bs R v hp sp i) := fun i hi => ref_need h.tie h.inv hz (by omega) hp sp hi
  have HLE : Hid ((outM n bs R true v).length ≤ 12 ∧ (outM n bs R false v).length ≤ 12 ∧ ∀ i, (needI n bs R v hp sp i).length ≤ 12) := ⟨Nat.le_trans (half_few h.inv true v) hn, Nat.le_trans (half_few h.inv false v) hn, fun i => Nat.le_trans (needI_len h.inv v hp sp i) hn⟩
  have hok : ∀ s, ∀ a ∈ outM n bs R s v, (0 ≤ a.2.1 ∧ a.2.1 ≤ 140737488355328) ∧ ∃ m : Nat, a.1 = (m : Int) ∧ m < n := fun s a ha => by
    obtain ⟨h1, h2, _⟩ := half_ok h.tie h.inv hz ha
    obtain ⟨m, e, hm, _⟩ := aliveB_iff.1 h2
    exact ⟨h1, m, e, hm⟩
  have HOK : Hid ((∀ a ∈ outM n bs R true v, (0 ≤ a.2.1 ∧ a.2.1 ≤ 140737488355328) ∧ ∃ m : Nat, a.1 = (m : Int) ∧ m < n) ∧ (∀ a ∈ outM n bs R false v, (0 ≤ a.2.1 ∧ a.2.1 ≤ 140737488355328) ∧ ∃ m : Nat, a.1 = (m : Int) ∧ m < n)) := ⟨hok true, hok false⟩
  clear hok
  obtain ⟨p0, p1, ps⟩ := opt_cells hk0
  obtain ⟨p2, p3, p4⟩ := opt_all hk0
  clear hW0 hB0 hbx hk0 h hz hzl hrb hhp hsp
  go_enter Tryz.func33, Tryz.ntmps33
  go_upto_region 1 with fail
  rw [HW0.out]
  go_wp2_with fail
  refine (HRB.out _).mono ?_
  rintro e w1 ⟨rfl, hb1⟩
  have H1 : Hid (Below W0.heap.size W0 w1) := hb1
  clear hb1 p0 p1 p2 p3 p4 ps
  obtain ⟨⟨c0, c1, cs⟩, _⟩ := HG.out w1 H1.out
  have HIN : Hid (type_of% ((HG.out w1 H1.out).2.1.rin (by have := HTI.out.2.2.2.1; omega) v)) := (HG.out w1 H1.out).2.1.rin (by have := HTI.out.2.2.2.1; omega) v
  go_wp2_with fail
  refine HIN.out.mono ?_
  rintro e w3 ⟨io, ic, rfl, hi3, hb3⟩
  have HOL : Hid (∀ wx, Below w3.heap.size w3 wx → (wx.cell? ⟨w.heap.size, 0, none⟩ = some (.slice fo n fc) ∧ wx.cell? ⟨w.heap.size, 1, none⟩ = some (.slice ao zs.length ac) ∧ w.heap.size < wx.heap.size) ∧ RefO wx n bs R zs (.slice fo n fc) (.slice ao zs.length ac) ∧ HasHs wx (.slice io (outM n bs R true v).length ic) (outM n bs R true v) ∧ Below w.heap.size w wx) := fun wx hx => by
    have hx1 := btr H1.out (btr hb3 hx)
    obtain ⟨q1, q2, q3⟩ := HG.out wx hx1
    exact ⟨q1, q2, hi3.keep hx, q3⟩
  have HROU : Hid (∀ wx, Below w3.heap.size w3 wx → Calls Tryz.prog 39 #[.agg #[.slice fo n fc, .slice ao zs.length ac], .int .i64 v] wx fun e w' => ∃ so sc, e = .returned (.slice so (outM n bs R false v).length sc) ∧ w'.ownsRow wx.heap.size 108 3 (.slice so (outM n bs R false v).length sc) (outM n bs R false v).length (flatH (outM n bs R false v)) ∧ Below wx.heap.size wx w') := fun wx hx => (HOL.out wx hx).2.1.routO (by have := HTI.out.2.2.2.1; omega) v
  have HWTC : Hid (∀ wx, Below w3.heap.size w3 wx → ∀ x y : Int, Calls Tryz.prog 58 #[.agg #[.slice fo n fc, .slice ao zs.length ac], .int .i64 x, .int .i64 y] wx fun e w' => e = .returned (.tuple #[.int .u64 ((weightM n bs R x y).getD 0), .bool (weightM n bs R x y).isSome]) ∧ Below wx.heap.size wx w') := fun wx hx x y => (HOL.out wx hx).2.1.rweight (by have := HTI.out.2.2.2.1; omega) x y
  have HFI : Hid (∀ wx, Below w3.heap.size w3 wx → ∀ (u : Nat), u < n → ∀ (go : Option Addr) (gc : Nat) (gs : List Int), HasInts wx (.slice go gs.length gc) gs → (∀ g ∈ gs, ∃ v : Nat, g = (v : Int) ∧ v < n) → gs.length ≤ 1000 → ∀ mo : Int, Calls Tryz.prog 57 #[.agg #[.slice fo n fc, .slice ao zs.length ac], .int .i64 (u : Int), .int .i64 v, .slice go gs.length gc, .int .u64 mo, .int .i64 hp, .int .i64 sp] wx fun e w' => ∃ vv, e = .returned vv ∧ w'.ownsRow wx.heap.size 66 1 vv (gs.map (goalF n (rowsZ (rowW n bs R) v n) u hp sp mo)).length (uvL (gs.map (goalF n (rowsZ (rowW n bs R) v n) u hp sp mo))) ∧ Below wx.heap.size wx w') := fun wx hx u hu go gc gs hg hgs hl mo => ref_rfind (HOL.out wx hx).2.1 (by have := HTI.out.2.2.2.1; omega) HTI.out.2.2.1 (by have := HTI.out.2.2.2.2; omega) u hu v go gc gs hg hgs hl mo hp sp
  have HKB : Hid (∀ (mo : Int) (u : Nat) (a1 a2 y0 y1 y2 : Int), keepB n bs R v hp sp mo ((u : Int), a1, a2) (y0, y1, y2) = (decide (a1 + y1 ≤ 140737488355328) && !hasQ (weightM n bs R (u : Int) y0) (a1 + y1) && decide (a1 + y1 < goalF n (rowsZ (rowW n bs R) v n) u hp sp mo y0))) := fun _ _ _ _ _ _ _ => rfl
  clear hi3 hb3 HIN c0 c1 cs
  obtain ⟨i0, hi, hz0, hz1, hz2⟩ : ∃ i, Tryz.prog.info? 3 = some i ∧ i.zero = some (.int .i64 0) ∧ i.size = 1 ∧ i.bytes = 8 := by
    have h := infoJ8
    cases hi : Tryz.prog.info? 3 with
    | none => rw [hi] at h; cases h
    | some i => rw [hi] at h; simp at h; exact ⟨i, rfl, h.1, h.2.1, h.2.2⟩
  obtain ⟨u0, hui, huz0, huz1, huz2⟩ : ∃ i, Tryz.prog.info? 66 = some i ∧ i.zero = some (.int .u64 0) ∧ i.size = 1 ∧ i.bytes = 8 := by
    have h := infoU
    cases hi : Tryz.prog.info? 66 with
    | none => rw [hi] at h; cases h
    | some i => rw [hi] at h; simp at h; exact ⟨i, rfl, h.1, h.2.1, h.2.2⟩
  generalize outM n bs R true v = ins at *
  generalize outM n bs R false v = outs at *
  have HT0 : Hid (TwoG w3.heap.size 0 0 w3 w3 w3 (.slice none 0 0) [] (.slice none 0 0) []) := two_start w3
  go_wp2_with fail
  go_loopw [32, 9] (fun iv lv wr => ∃ (k : Nat) (lo : Option Addr) (lc : Nat), k ≤ ins.length ∧ iv = .int .i64 k ∧ lv = .slice lo ((ins.take k).flatMap (needI n bs R v hp sp)).length lc ∧ TwoG w3.heap.size 0 0 w3 w3 wr (.slice lo ((ins.take k).flatMap (needI n bs R v hp sp)).length lc) ((ins.take k).flatMap (needI n bs R v hp sp)) (.slice none 0 0) []) (fun iv _ _ => ins.length - (intOf iv).toNat)
  case atStart => exact ⟨0, none, 0, Nat.zero_le _, rfl, rfl, HT0.out⟩
  case round =>
    obtain ⟨k, lo, lc, hk, rfl, rfl, hT⟩ := hrel
    have HT : Hid (type_of% hT) := hT
    clear hT HT0
    by_cases hlt : k < ins.length
    · obtain ⟨a, ha⟩ : ∃ a, ins[k]? = some a := ⟨ins[k], List.getElem?_eq_getElem hlt⟩
      obtain ⟨ob, off, hio, bl, p0, p1, p2⟩ := (HOL.out wr HT.out.below).2.2.1.at ha
      subst hio
      obtain ⟨ha1, u, hau, hun⟩ := HOK.out.1 a (List.mem_of_getElem? ha)
      have HSA : Hid ((ins.take (k + 1)).flatMap (needI n bs R v hp sp) = (ins.take k).flatMap (needI n bs R v hp sp) ++ needI n bs R v hp sp a) := by
        show _ = _
        rw [List.take_add_one, ha, List.flatMap_append]
        simp
      have HPL : Hid (((ins.take k).flatMap (needI n bs R v hp sp)).length ≤ 144) := by
        have h0 : (ins.take k).length ≤ 12 := by rw [List.length_take]; have := HLE.out.1; omega
        have h1 := flat_len (needI n bs R v hp sp) 12 (ins.take k) HLE.out.2.2
        show _ ≤ _
        omega
      have HNA : Hid (type_of% (HNI.out a (List.mem_of_getElem? ha))) := HNI.out a (List.mem_of_getElem? ha)
      obtain ⟨a0, a1, a2⟩ := a
      simp only at p0 p1 p2 hau ha1
      subst hau
      generalize (ins.take k).flatMap (needI n bs R v hp sp) = PA at *
      obtain ⟨W5, hW5⟩ : ∃ W5, wr.alloc (.cells #[.int .i64 (u : Int), .int .u64 a1, .int .i64 a2] 108) = W5 := ⟨_, rfl⟩
      have HW5 : Hid (wr.alloc (.cells #[.int .i64 (u : Int), .int .u64 a1, .int .i64 a2] 108) = W5) := hW5
      have hb5 : Below wr.heap.size wr W5 := by rw [← hW5]; exact bel_one _ _
      have k5 : W5.heap[wr.heap.size]? = some (.cells #[.int .i64 (u : Int), .int .u64 a1, .int .i64 a2] 108) := by rw [← hW5]; exact heap_new _ _
      have hbw5 : Below w3.heap.size w3 W5 := (HT.out.later hb5).below
      have HRO : Hid (type_of% (HROU.out W5 hbw5)) := HROU.out W5 hbw5
      obtain ⟨⟨c0, c1, cs⟩, _⟩ := HOL.out W5 hbw5
      have HK5 : Hid (W5.heap[wr.heap.size]? = some (.cells #[.int .i64 (u : Int), .int .u64 a1, .int .i64 a2] 108) ∧ Below wr.heap.size wr W5) := ⟨k5, hb5⟩
      have HUN : Hid (u < n ∧ 0 ≤ a1 ∧ a1 ≤ 140737488355328) := ⟨hun, ha1.1, ha1.2⟩
      have i1 : (k : Int) < (ins.length : Int) := by omega
      have i2 : (0 : Int) ≤ (k : Int) := by omega
      have hk12 : ins.length ≤ 12 := HLE.out.1
      clear ha hW5 hb5 k5 hbw5 hun ha1
      go_upto_region 6 with fail
      rw [HW5.out]
      clear p0 p1 p2 bl
      go_wp2_with fail
      refine HRO.out.mono ?_
      rintro e w6 ⟨xo, xc, rfl, ho6, hb6⟩
      have H6 : Hid (HasHs w6 (.slice xo outs.length xc) outs ∧ w6.heap[wr.heap.size]? = some (.cells #[.int .i64 (u : Int), .int .u64 a1, .int .i64 a2] 108) ∧ Below wr.heap.size wr w6) := ⟨hs_of_rowR ho6, (hb6.block _ (lt_of_get HK5.out.1)).trans HK5.out.1, btr HK5.out.2 hb6⟩
      have HBA : Hid (∀ wx, Below w6.heap.size w6 wx → (wx.cell? ⟨wr.heap.size, 0, none⟩ = some (.int .i64 (u : Int)) ∧ wx.cell? ⟨wr.heap.size, 1, none⟩ = some (.int .u64 a1) ∧ wr.heap.size < wx.heap.size) ∧ HasHs wx (.slice xo outs.length xc) outs ∧ Below w3.heap.size w3 wx) := fun wx hx => by
        have q := (hx.block _ (lt_of_get H6.out.2.1)).trans H6.out.2.1
        exact ⟨⟨by simp [World.cell?, q], by simp [World.cell?, q], lt_of_get q⟩, H6.out.1.keep hx, (HT.out.later (btr H6.out.2.2 hx)).below⟩
      have HI0 : Hid (TwoI w6.heap.size w6 w6 (.slice none 0 0) [] (.slice none 0 0) []) := ⟨World.ownsRow_nil _ _ _ _, World.ownsRow_nil _ _ _ _, (fun _ e => by cases e), Below.refl _ _, Nat.le_refl _⟩
      clear ho6 hb6 c0 c1 cs HRO
      generalize hWX : wr = wo at *
      clear hWX
      go_wp2_with fail
      go_loopw [40, 12, 13, 14] (fun jv gv wv mv wx => ∃ (j : Nat) (go : Option Addr) (gc : Nat) (qo : Option Addr) (qc : Nat) (GL WL : List Int) (M : Int), (j ≤ outs.length ∧ GL = (awayL ((u : Int), a1, a2) (outs.take j)).map (·.1) ∧ WL = (awayL ((u : Int), a1, a2) (outs.take j)).map (·.2.1) ∧ M = mostG ((u : Int), a1, a2) (awayL ((u : Int), a1, a2) (outs.take j))) ∧ jv = .int .i64 j ∧ gv = .slice go GL.length gc ∧ wv = .slice qo WL.length qc ∧ mv = .int .u64 M ∧ TwoI w6.heap.size w6 wx (.slice go GL.length gc) GL (.slice qo WL.length qc) WL) (fun jv _ _ _ _ => outs.length - (intOf jv).toNat)
      case atStart => exact ⟨0, none, 0, none, 0, [], [], 0, ⟨Nat.zero_le _, rfl, rfl, rfl⟩, rfl, rfl, rfl, rfl, HI0.out⟩
      case round =>
        obtain ⟨j, go, gc, qo, qc, GL, WL, M, hJ, rfl, rfl, rfl, rfl, hI⟩ := hrel
        have HJ : Hid (type_of% hJ) := hJ
        have hj := hJ.1
        clear hJ
        have HI : Hid (type_of% hI) := hI
        clear hI
        by_cases hjl : j < outs.length
        · obtain ⟨y, hy⟩ : ∃ y, outs[j]? = some y := ⟨outs[j], List.getElem?_eq_getElem hjl⟩
          obtain ⟨yb, yof, hxo, yl, q0, q1, q2⟩ := (HBA.out wr HI.out.below).2.1.at hy
          subst hxo
          obtain ⟨hy1, _⟩ := HOK.out.2 y (List.mem_of_getElem? hy)
          have has := awayL_succ (i := ((u : Int), a1, a2)) hy
          have HAL : Hid (GL.length ≤ 12 ∧ WL.length ≤ 12) := by
            have h1 := awayL_len ((u : Int), a1, a2) (outs.take j)
            have h2 : (outs.take j).length ≤ 12 := by rw [List.length_take]; have := HLE.out.2.1; omega
            refine ⟨?_, ?_⟩
            · rw [HJ.out.2.1, List.length_map]; omega
            · rw [HJ.out.2.2.1, List.length_map]; omega
          obtain ⟨y0, y1, y2⟩ := y
          simp only at q0 q1 q2 hy1 has
          obtain ⟨W7, hW7⟩ : ∃ W7, wr.alloc (.cells #[.int .i64 y0, .int .u64 y1, .int .i64 y2] 108) = W7 := ⟨_, rfl⟩
          have HW7 : Hid (wr.alloc (.cells #[.int .i64 y0, .int .u64 y1, .int .i64 y2] 108) = W7) := hW7
          have hb7 : Below wr.heap.size wr W7 := by rw [← hW7]; exact bel_one _ _
          have k7 : W7.heap[wr.heap.size]? = some (.cells #[.int .i64 y0, .int .u64 y1, .int .i64 y2] 108) := by rw [← hW7]; exact heap_new _ _
          have HI7 : Hid (type_of% (HI.out.later hb7)) := HI.out.later hb7
          obtain ⟨⟨d0, d1, ds⟩, _⟩ := HBA.out W7 HI7.out.below
          have e0 : W7.cell? ⟨wr.heap.size, 0, none⟩ = some (.int .i64 y0) := by simp [World.cell?, k7]
          have e1 : W7.cell? ⟨wr.heap.size, 1, none⟩ = some (.int .u64 y1) := by simp [World.cell?, k7]
          have es := lt_of_get k7
          have HK7 : Hid (W7.heap[wr.heap.size]? = some (.cells #[.int .i64 y0, .int .u64 y1, .int .i64 y2] 108) ∧ Below wr.heap.size wr W7) := ⟨k7, hb7⟩
          have j1 : (j : Int) < (outs.length : Int) := by omega
          have j2 : (0 : Int) ≤ (j : Int) := by omega
          have ho12 : outs.length ≤ 12 := HLE.out.2.1
          clear hy hW7 hb7 k7
          by_cases hne : y0 = (u : Int)
          · have HA : Hid (awayL ((u : Int), a1, a2) (outs.take (j + 1)) = awayL ((u : Int), a1, a2) (outs.take j)) := by
              show _ = _
              rw [has, if_pos hne, List.append_nil]
            have g1 : (y0 != (u : Int)) = false := by simpa using hne
            clear has hne
            go_upto_region 12 with fail
            rw [HW7.out]
            clear q0 q1 q2 yl
            go_wp2
            go_roundw
            case rel => exact ⟨j + 1, go, gc, qo, qc, GL, WL, M, ⟨by omega, by rw [HA.out]; exact HJ.out.2⟩, by go_num, rfl, rfl, rfl, HI7.out⟩
            case measure => simp [intOf]; omega
          · have hA : awayL ((u : Int), a1, a2) (outs.take (j + 1)) = awayL ((u : Int), a1, a2) (outs.take j) ++ [(y0, y1, y2)] := by
              rw [has, if_neg hne]
            have HA : Hid (GL ++ [y0] = (awayL ((u : Int), a1, a2) (outs.take (j + 1))).map (·.1) ∧ WL ++ [y1] = (awayL ((u : Int), a1, a2) (outs.take (j + 1))).map (·.2.1) ∧ max M (a1 + y1) = mostG ((u : Int), a1, a2) (awayL ((u : Int), a1, a2) (outs.take (j + 1)))) := by
              refine ⟨?_, ?_, ?_⟩
              · rw [hA, HJ.out.2.1, List.map_append]; rfl
              · rw [hA, HJ.out.2.2.1, List.map_append]; rfl
              · rw [hA, mostG_snoc, HJ.out.2.2.2]
            have g1 : (y0 != (u : Int)) = true := by simpa using hne
            have iw : IntKind.u64.wrap (a1 + y1) = a1 + y1 := by have := HUN.out.2; rw [IntKind.wrap_u64]; omega
            have HG7 : Hid (TwoI w6.heap.size w6 (W7.alloc (.cells #[.int .i64 y0] 3)) (.slice go GL.length gc) GL (.slice qo WL.length qc) WL ∧ w6.heap.size ≤ (W7.alloc (.cells #[.int .i64 y0] 3)).heap.size ∧ wr.heap.size < (W7.alloc (.cells #[.int .i64 y0] 3)).heap.size ∧ (W7.alloc (.cells #[.int .i64 y0] 3)).heap[wr.heap.size]? = some (.cells #[.int .i64 y0, .int .u64 y1, .int .i64 y2] 108)) := by
              have hbo : Below W7.heap.size W7 (W7.alloc (.cells #[.int .i64 y0] 3)) := bel_one _ _
              refine ⟨HI7.out.later hbo, Nat.le_trans HI7.out.below.size hbo.size, Nat.lt_of_lt_of_le (lt_of_get HK7.out.1) hbo.size, (hbo.block _ (lt_of_get HK7.out.1)).trans HK7.out.1⟩
            clear has hne hA
            go_upto_region 12 with fail
            rw [HW7.out]
            clear q0 q1 q2 yl
            go_upto_region 14 with (at_builtin; refine wpList_append_own_at _ rfl _ _ 56 rfl w6.heap.size 3 i0 (.int .i64 0) 1 8 Tryz.underlying56 hi hz0 hz1 hz2 rfl (by decide) (.slice go GL.length gc) GL.length (iv GL) rfl HG7.out.1.rowG ⟨W7.heap.size, 0, none⟩ 1 1 [.int .i64 y0] rfl rfl (cell_one_new _ _ _) (fun u hu => by simp at hu; subst hu; rfl) (by have := HAL.out; unfold maxLen; omega) (by have := HAL.out; omega) HG7.out.2.1 ?_; intro v8 w8 hown8 hgr8 _ hv8; obtain ⟨ro, rc, hvv⟩ := any_slice hown8; subst hvv; have Y8 : Hid (TwoI w6.heap.size w6 w8 (.slice ro (GL.length + 1) rc) (GL ++ [y0]) (.slice qo WL.length qc) WL ∧ w8.heap[wr.heap.size]? = some (.cells #[.int .i64 y0, .int .u64 y1, .int .i64 y2] 108)) := ⟨HG7.out.1.addG hown8 hgr8 hv8, (grown_keep HI.out.rowG hgr8 (Nat.le_refl _) HG7.out.2.2.1).trans HG7.out.2.2.2⟩; clear hown8 hgr8 hv8)
            clear e0 e1 es d0 d1 ds
            obtain ⟨⟨d0, d1, ds⟩, _⟩ := HBA.out w8 Y8.out.1.below
            have e1 : w8.cell? ⟨wr.heap.size, 1, none⟩ = some (.int .u64 y1) := by simp [World.cell?, Y8.out.2]
            have es := lt_of_get Y8.out.2
            have HG8 : Hid (TwoI w6.heap.size w6 (w8.alloc (.cells #[.int .u64 y1] 66)) (.slice ro (GL.length + 1) rc) (GL ++ [y0]) (.slice qo WL.length qc) WL ∧ w6.heap.size ≤ (w8.alloc (.cells #[.int .u64 y1] 66)).heap.size ∧ wr.heap.size < (w8.alloc (.cells #[.int .u64 y1] 66)).heap.size ∧ (w8.alloc (.cells #[.int .u64 y1] 66)).heap[wr.heap.size]? = some (.cells #[.int .i64 y0, .int .u64 y1, .int .i64 y2] 108)) := by
              have hbo : Below w8.heap.size w8 (w8.alloc (.cells #[.int .u64 y1] 66)) := bel_one _ _
              refine ⟨Y8.out.1.later hbo, Nat.le_trans Y8.out.1.below.size hbo.size, Nat.lt_of_lt_of_le (lt_of_get Y8.out.2) hbo.size, (hbo.block _ (lt_of_get Y8.out.2)).trans Y8.out.2⟩
            go_upto_region 15 with (at_builtin; refine wpList_append_own_at _ rfl _ _ 130 rfl w6.heap.size 66 u0 (.int .u64 0) 1 8 Tryz.underlying130 hui huz0 huz1 huz2 rfl (by decide) (.slice qo WL.length qc) WL.length (uvL WL) rfl HG8.out.1.rowW ⟨w8.heap.size, 0, none⟩ 1 1 [.int .u64 y1] rfl rfl (cell_one_new _ _ _) (fun u hu => by simp at hu; subst hu; rfl) (by have := HAL.out; unfold maxLen; omega) (by have := HAL.out; omega) HG8.out.2.1 ?_; intro v9 w9 hown9 hgr9 _ hv9; obtain ⟨ta, tc, hvv⟩ := any_slice hown9; subst hvv; have Y9 : Hid (TwoI w6.heap.size w6 w9 (.slice ro (GL.length + 1) rc) (GL ++ [y0]) (.slice ta (WL.length + 1) tc) (WL ++ [y1]) ∧ w9.heap[wr.heap.size]? = some (.cells #[.int .i64 y0, .int .u64 y1, .int .i64 y2] 108)) := ⟨HG8.out.1.addW hown9 hgr9 hv9, (grown_keep HI.out.rowW hgr9 (Nat.le_refl _) HG8.out.2.2.1).trans HG8.out.2.2.2⟩; clear hown9 hgr9 hv9)
            clear e1 es d0 d1 ds
            obtain ⟨⟨d0, d1, ds⟩, _⟩ := HBA.out w9 Y9.out.1.below
            have e1 : w9.cell? ⟨wr.heap.size, 1, none⟩ = some (.int .u64 y1) := by simp [World.cell?, Y9.out.2]
            have es := lt_of_get Y9.out.2
            go_wp2
            go_roundw
            case rel => exact ⟨j + 1, ro, rc, ta, tc, GL ++ [y0], WL ++ [y1], max M (a1 + y1), ⟨by omega, HA.out⟩, by go_num, by rw [List.length_append]; rfl, by rw [List.length_append]; rfl, rfl, by rw [List.length_append, List.length_append]; exact Y9.out.1⟩
            case measure => simp [intOf]; omega
        · obtain rfl : j = outs.length := by omega
          rw [List.take_length] at HJ
          obtain ⟨⟨d0, d1, ds⟩, _, hbw⟩ := HBA.out wr HI.out.below
          have hgs : ∀ g ∈ GL, ∃ v : Nat, g = (v : Int) ∧ v < n := fun g hg => by
            rw [HJ.out.2.1] at hg
            obtain ⟨y, hy, rfl⟩ := List.mem_map.1 hg
            exact (HOK.out.2 y (List.mem_filter.1 hy).1).2
          have hgl : GL.length ≤ 12 := by
            rw [HJ.out.2.1, List.length_map]
            exact Nat.le_trans (awayL_len _ _) HLE.out.2.1
          have HF : Hid (type_of% (HFI.out wr hbw u HUN.out.1 go gc GL (ints_of_iown HI.out.rowG) hgs (by omega) M)) := HFI.out wr hbw u HUN.out.1 go gc GL (ints_of_iown HI.out.rowG) hgs (by omega) M
          obtain ⟨⟨c0, c1, cs⟩, _⟩ := HOL.out wr hbw
          clear hgs hbw
          go_wp2_with fail
          refine HF.out.mono ?_
          rintro e w17 ⟨vv, rfl, ho17, hb17⟩
          obtain ⟨so, sc, hvv⟩ := any_slice ho17
          subst hvv
          have hAL : ∃ AL, awayL ((u : Int), a1, a2) outs = AL := ⟨_, rfl⟩
          obtain ⟨AL, hAL⟩ := hAL
          rw [hAL] at HJ HNA
          have HAM : Hid (∀ y ∈ AL, 0 ≤ y.2.1 ∧ y.2.1 ≤ 140737488355328) := fun y hy => (HOK.out.2 y (by rw [← hAL] at hy; exact (List.mem_filter.1 hy).1)).1
          have HAN : Hid (AL.length ≤ 12) := by rw [← hAL]; exact Nat.le_trans (awayL_len _ _) HLE.out.2.1
          obtain ⟨SL, hSL⟩ : ∃ SL, GL.map (goalF n (rowsZ (rowW n bs R) v n) u hp sp M) = SL := ⟨_, rfl⟩
          rw [hSL] at ho17
          have HLN : Hid (GL.length = AL.length ∧ WL.length = AL.length ∧ SL.length = AL.length) := ⟨by rw [HJ.out.2.1, List.length_map], by rw [HJ.out.2.2.1, List.length_map], by rw [← hSL, List.length_map, HJ.out.2.1, List.length_map]⟩
          have HAT : Hid (∀ (j : Nat) (y : H3), AL[j]? = some y → (iv GL)[j]? = some (.int .i64 y.1) ∧ (uvL WL)[j]? = some (.int .u64 y.2.1) ∧ (uvL SL)[j]? = some (.int .u64 (goalF n (rowsZ (rowW n bs R) v n) u hp sp M y.1))) := fun j y hy => by
            have e1 : GL[j]? = some y.1 := by rw [HJ.out.2.1, List.getElem?_map, hy]; rfl
            have e2 : WL[j]? = some y.2.1 := by rw [HJ.out.2.2.1, List.getElem?_map, hy]; rfl
            refine ⟨?_, ?_, ?_⟩
            · unfold iv; rw [List.getElem?_map, e1]; rfl
            · unfold uvL; rw [List.getElem?_map, e2]; rfl
            · unfold uvL; rw [← hSL, List.getElem?_map, List.getElem?_map, e1]; rfl
          have hsz : wo.heap.size ≤ w6.heap.size ∧ w6.heap.size ≤ wr.heap.size ∧ wr.heap.size ≤ w17.heap.size := ⟨H6.out.2.2.size, HI.out.below.size, hb17.size⟩
          have hb0 : Below wo.heap.size wo w17 := btr H6.out.2.2 (btr HI.out.below hb17)
          have HR17 : Hid (∀ wx : World, (∀ k, wo.heap.size ≤ k → k < w17.heap.size → wx.heap[k]? = w17.heap[k]?) → wx.ownsRow w6.heap.size 3 1 (.slice go GL.length gc) GL.length (iv GL) ∧ wx.ownsRow w6.heap.size 66 1 (.slice qo WL.length qc) WL.length (uvL WL) ∧ wx.ownsRow wr.heap.size 66 1 (.slice so SL.length sc) SL.length (uvL SL) ∧ wx.heap[wo.heap.size]? = some (.cells #[.int .i64 (u : Int), .int .u64 a1, .int .i64 a2] 108)) := fun wx hk => by
            have hbx := (btr HI.out.below hb17).block _ (lt_of_get H6.out.2.1)
            have hbz := hbx.trans H6.out.2.1
            refine ⟨row_keep9 (row_below9 HI.out.rowG hb17) fun g e => hk g ?_ ?_, row_keep9 (row_below9 HI.out.rowW hb17) fun g e => hk g ?_ ?_, row_keep9 ho17 fun g e => hk g ?_ ?_, (hk _ (Nat.le_refl _) (lt_of_get hbz)).trans hbz⟩
            · have := (HI.out.rowG.lt g e).1; omega
            · have := (HI.out.rowG.lt g e).2; omega
            · have := (HI.out.rowW.lt g e).1; omega
            · have := (HI.out.rowW.lt g e).2; omega
            · have := (ho17.lt g e).1; omega
            · exact (ho17.lt g e).2
          have HT17 : Hid (type_of% (HT.out.hole hb0)) := HT.out.hole hb0
          clear ho17 hb17 hsz hb0 hAL hSL HF d0 d1 ds c0 c1 cs
          generalize wr = wi at *
          go_wp2_with fail
          go_loopw [78, 9] (fun jv lv wx => ∃ (j : Nat) (ro : Option Addr) (rc : Nat) (NL : List S3), (j ≤ AL.length ∧ NL = PA ++ ((AL.take j).filter (keepB n bs R v hp sp M ((u : Int), a1, a2))).map (wayOf ((u : Int), a1, a2))) ∧ jv = .int .i64 j ∧ lv = .slice ro NL.length rc ∧ TwoG w3.heap.size wo.heap.size w17.heap.size w3 w17 wx (.slice ro NL.length rc) NL (.slice none 0 0) []) (fun jv _ _ => AL.length - (intOf jv).toNat)
          case atStart => exact ⟨0, lo, lc, PA, ⟨Nat.zero_le _, by simp⟩, rfl, rfl, HT17.out⟩
          case round =>
            obtain ⟨j, ro, rc, NL, hJ2, rfl, rfl, hT2⟩ := hrel
            have HJ2 : Hid (type_of% hJ2) := hJ2
            have HT2 : Hid (type_of% hT2) := hT2
            have hj2 := hJ2.1
            clear hJ2 hT2 HT17
            have HKP : Hid (∀ wx : World, Below wr.heap.size wr wx → (∀ k, wo.heap.size ≤ k → k < w17.heap.size → wx.heap[k]? = w17.heap[k]?) ∧ Below w3.heap.size w3 wx) := fun wx hx => ⟨(HT2.out.later hx).keep, (HT2.out.later hx).below⟩
            by_cases hjl : j < AL.length
            · obtain ⟨y, hy⟩ : ∃ y, AL[j]? = some y := ⟨AL[j], List.getElem?_eq_getElem hjl⟩
              obtain ⟨y1w, y1m⟩ := HAM.out y (List.mem_of_getElem? hy)
              obtain ⟨t1, t2, t3⟩ := HAT.out j y hy
              have hks := keep_succ (p := keepB n bs R v hp sp M ((u : Int), a1, a2)) (f := wayOf ((u : Int), a1, a2)) hy
              have HNLn : Hid (NL.length ≤ 160) := by
                have h1 : (((AL.take j).filter (keepB n bs R v hp sp M ((u : Int), a1, a2))).map (wayOf ((u : Int), a1, a2))).length ≤ 12 := by
                  rw [List.length_map]
                  refine Nat.le_trans (List.length_filter_le _ _) ?_
                  rw [List.length_take]
                  have := HAN.out
                  omega
                show _ ≤ _
                rw [HJ2.out.2, List.length_append]
                have := HPL.out
                omega
              obtain ⟨y0, y1, y2⟩ := y
              simp only at y1w y1m t1 t2 t3
              have hkb := HKB.out M u a1 a2 y0 y1 y2
              obtain ⟨t, ht⟩ : ∃ t, goalF n (rowsZ (rowW n bs R) v n) u hp sp M y0 = t := ⟨_, rfl⟩
              rw [ht] at t3 hkb
              obtain ⟨r1, r2, r3, r4⟩ := HR17.out wr (HKP.out wr (Below.refl _ _)).1
              obtain ⟨g1, e1, l1, x1⟩ := own_at1 r1 t1
              obtain ⟨g2, e2, l2, x2⟩ := own_at1 r2 t2
              subst e1
              subst e2
              have b1 : wr.cell? ⟨wo.heap.size, 1, none⟩ = some (.int .u64 a1) := by simp [World.cell?, r4]
              have bz := lt_of_get r4
              have iw : IntKind.u64.wrap (a1 + y1) = a1 + y1 := by have := HUN.out.2; rw [IntKind.wrap_u64]; omega
              have j0 : (0 : Int) ≤ (j : Int) := by omega
              have j1 : (j : Int) < (GL.length : Int) := by have := HLN.out; omega
              have j2 : (j : Int) < (WL.length : Int) := by have := HLN.out; omega
              have j3 : (j : Int) < (SL.length : Int) := by have := HLN.out; omega
              have j4 : AL.length ≤ 12 := HAN.out
              clear r1 r2 r3 r4 t1 t2 ht hy
              go_wp2_with fail
              go_quiet (fail)
              have HWD : Hid (Below wr.heap.size wr (wr.drewN nq)) := below_drewN (Below.refl _ _) nq
              generalize wr.drewN nq = w20 at *
              obtain ⟨q, hq⟩ : ∃ q, weightM n bs R (u : Int) y0 = q := ⟨_, rfl⟩
              have hcw := HWTC.out w20 (HKP.out w20 HWD.out).2 (u : Int) y0
              rw [hq] at hcw hkb
              have HCW : Hid (type_of% hcw) := hcw
              obtain ⟨⟨c0, c1, cs⟩, _⟩ := HOL.out w20 (HKP.out w20 HWD.out).2
              obtain ⟨_, _, _, r4⟩ := HR17.out w20 (HKP.out w20 HWD.out).1
              clear b1 bz l1 x1 l2 x2 hcw hq
              have b0 : w20.cell? ⟨wo.heap.size, 0, none⟩ = some (.int .i64 (u : Int)) := by simp [World.cell?, r4]
              have bz := lt_of_get r4
              clear r4
              go_wp2_with fail
              refine HCW.out.mono ?_
              rintro e w22 ⟨rfl, hb22⟩
              have HB22 : Hid (Below wr.heap.size wr w22) := btr HWD.out hb22
              have HT22 : Hid (type_of% (HT2.out.later HB22.out)) := HT2.out.later HB22.out
              obtain ⟨_, _, r3, r4⟩ := HR17.out w22 (HKP.out w22 HB22.out).1
              obtain ⟨g3, e3, l3, x3⟩ := own_at1 r3 t3
              subst e3
              clear b0 bz c0 c1 cs hb22
              have b0 : w22.cell? ⟨wo.heap.size, 0, none⟩ = some (.int .i64 (u : Int)) := by simp [World.cell?, r4]
              have bz := lt_of_get r4
              clear r3 r4 t3 HCW
              by_cases hd : a1 + y1 ≤ 140737488355328
              · have g5 : decide (a1 + y1 ≤ 140737488355328) = true := by simpa using hd
                cases q with
                | none =>
                  by_cases htd : a1 + y1 < t
                  · have g7 : decide (a1 + y1 < t) = true := by simpa using htd
                    have HNX : Hid (NL ++ [((u : Int), y0, a1 + y1)] = PA ++ ((AL.take (j + 1)).filter (keepB n bs R v hp sp M ((u : Int), a1, a2))).map (wayOf ((u : Int), a1, a2))) := by
                      show _ = _
                      rw [hks, show keepB n bs R v hp sp M ((u : Int), a1, a2) (y0, y1, y2) = true by rw [hkb]; simp [hasQ, htd, hd], if_pos rfl, ← List.append_assoc, ← HJ2.out.2]
                      rfl
                    clear hks hkb
                    have HAP : Hid (TwoG w3.heap.size wo.heap.size w17.heap.size w3 w17 (w22.alloc (.cells #[.int .i64 (u : Int), .int .i64 y0, .int .u64 (a1 + y1)] 68)) (.slice ro NL.length rc) NL (.slice none 0 0) [] ∧ HasSs (w22.alloc (.cells #[.int .i64 (u : Int), .int .i64 y0, .int .u64 (a1 + y1)] 68)) (.slice (some ⟨w22.heap.size, 0, none⟩) 1 1) [((u : Int), y0, a1 + y1)] ∧ w3.heap.size ≤ (w22.alloc (.cells #[.int .i64 (u : Int), .int .i64 y0, .int .u64 (a1 + y1)] 68)).heap.size) := by
                      have hbo : Below w22.heap.size w22 (w22.alloc (.cells #[.int .i64 (u : Int), .int .i64 y0, .int .u64 (a1 + y1)] 68)) := bel_one _ _
                      have h1 := HT22.out.later hbo
                      exact ⟨h1, ss_one w22 ((u : Int), y0, a1 + y1) _, h1.below.size⟩
                    go_wp2_with (at_builtin; refine wpList_append_rsA rfl _ _ rfl w3.heap.size (.slice ro NL.length rc) NL rfl HAP.out.1.rowA ⟨w22.heap.size, 0, none⟩ 1 [((u : Int), y0, a1 + y1)] rfl HAP.out.2.1 (by have := HNLn.out; simp only [List.length_cons, List.length_nil]; omega) HAP.out.2.2 ?_; intro v4 w4 hown4 hgr4 hv4; obtain ⟨po, pc, hvv⟩ := any_slice hown4; subst hvv; have Y4 : Hid (TwoG w3.heap.size wo.heap.size w17.heap.size w3 w17 w4 (.slice po (NL ++ [((u : Int), y0, a1 + y1)]).length pc) (NL ++ [((u : Int), y0, a1 + y1)]) (.slice none 0 0) []) := HAP.out.1.addA hown4 hgr4 hv4; clear hown4 hgr4 hv4)
                    go_roundw
                    case rel => exact ⟨j + 1, po, pc, NL ++ [((u : Int), y0, a1 + y1)], ⟨by omega, HNX.out⟩, by go_num, by rw [List.length_append]; rfl, Y4.out⟩
                    case measure => simp [intOf]; omega
                  · have g7 : decide (a1 + y1 < t) = false := by simpa using htd
                    have g8 : t ≤ a1 + y1 := by omega
                    have HNX : Hid (NL = PA ++ ((AL.take (j + 1)).filter (keepB n bs R v hp sp M ((u : Int), a1, a2))).map (wayOf ((u : Int), a1, a2))) := by
                      show _ = _
                      rw [hks, show keepB n bs R v hp sp M ((u : Int), a1, a2) (y0, y1, y2) = false by rw [hkb]; simp [hasQ, htd, hd], if_neg (by simp), List.append_nil]
                      exact HJ2.out.2
                    clear hks hkb
                    go_wp2
                    go_roundw
                    case rel => exact ⟨j + 1, ro, rc, NL, ⟨by omega, HNX.out⟩, by go_num, rfl, HT22.out⟩
                    case measure => simp [intOf]; omega
                | some x =>
                  by_cases hxd : x ≤ a1 + y1
                  · have g6 : decide (x ≤ a1 + y1) = true := by simpa using hxd
                    have HNX : Hid (NL = PA ++ ((AL.take (j + 1)).filter (keepB n bs R v hp sp M ((u : Int), a1, a2))).map (wayOf ((u : Int), a1, a2))) := by
                      show _ = _
                      rw [hks, show keepB n bs R v hp sp M ((u : Int), a1, a2) (y0, y1, y2) = false by rw [hkb]; simp [hasQ, hxd, hd], if_neg (by simp), List.append_nil]
                      exact HJ2.out.2
                    clear hks hkb
                    go_wp2
                    go_roundw
                    case rel => exact ⟨j + 1, ro, rc, NL, ⟨by omega, HNX.out⟩, by go_num, rfl, HT22.out⟩
                    case measure => simp [intOf]; omega
                  · have g6 : decide (x ≤ a1 + y1) = false := by simpa using hxd
                    have g9 : a1 + y1 < x := by omega
                    by_cases htd : a1 + y1 < t
                    · have g7 : decide (a1 + y1 < t) = true := by simpa using htd
                      have HNX : Hid (NL ++ [((u : Int), y0, a1 + y1)] = PA ++ ((AL.take (j + 1)).filter (keepB n bs R v hp sp M ((u : Int), a1, a2))).map (wayOf ((u : Int), a1, a2))) := by
                        show _ = _
                        rw [hks, show keepB n bs R v hp sp M ((u : Int), a1, a2) (y0, y1, y2) = true by rw [hkb]; simp [hasQ, htd, hd, hxd], if_pos rfl, ← List.append_assoc, ← HJ2.out.2]
                        rfl
                      clear hks hkb
                      have HAP : Hid (TwoG w3.heap.size wo.heap.size w17.heap.size w3 w17 (w22.alloc (.cells #[.int .i64 (u : Int), .int .i64 y0, .int .u64 (a1 + y1)] 68)) (.slice ro NL.length rc) NL (.slice none 0 0) [] ∧ HasSs (w22.alloc (.cells #[.int .i64 (u : Int), .int .i64 y0, .int .u64 (a1 + y1)] 68)) (.slice (some ⟨w22.heap.size, 0, none⟩) 1 1) [((u : Int), y0, a1 + y1)] ∧ w3.heap.size ≤ (w22.alloc (.cells #[.int .i64 (u : Int), .int .i64 y0, .int .u64 (a1 + y1)] 68)).heap.size) := by
                        have hbo : Below w22.heap.size w22 (w22.alloc (.cells #[.int .i64 (u : Int), .int .i64 y0, .int .u64 (a1 + y1)] 68)) := bel_one _ _
                        have h1 := HT22.out.later hbo
                        exact ⟨h1, ss_one w22 ((u : Int), y0, a1 + y1) _, h1.below.size⟩
                      go_wp2_with (at_builtin; refine wpList_append_rsA rfl _ _ rfl w3.heap.size (.slice ro NL.length rc) NL rfl HAP.out.1.rowA ⟨w22.heap.size, 0, none⟩ 1 [((u : Int), y0, a1 + y1)] rfl HAP.out.2.1 (by have := HNLn.out; simp only [List.length_cons, List.length_nil]; omega) HAP.out.2.2 ?_; intro v4 w4 hown4 hgr4 hv4; obtain ⟨po, pc, hvv⟩ := any_slice hown4; subst hvv; have Y4 : Hid (TwoG w3.heap.size wo.heap.size w17.heap.size w3 w17 w4 (.slice po (NL ++ [((u : Int), y0, a1 + y1)]).length pc) (NL ++ [((u : Int), y0, a1 + y1)]) (.slice none 0 0) []) := HAP.out.1.addA hown4 hgr4 hv4; clear hown4 hgr4 hv4)
                      go_roundw
                      case rel => exact ⟨j + 1, po, pc, NL ++ [((u : Int), y0, a1 + y1)], ⟨by omega, HNX.out⟩, by go_num, by rw [List.length_append]; rfl, Y4.out⟩
                      case measure => simp [intOf]; omega
                    · have g7 : decide (a1 + y1 < t) = false := by simpa using htd
                      have g8 : t ≤ a1 + y1 := by omega
                      have HNX : Hid (NL = PA ++ ((AL.take (j + 1)).filter (keepB n bs R v hp sp M ((u : Int), a1, a2))).map (wayOf ((u : Int), a1, a2))) := by
                        show _ = _
                        rw [hks, show keepB n bs R v hp sp M ((u : Int), a1, a2) (y0, y1, y2) = false by rw [hkb]; simp [hasQ, htd, hd, hxd], if_neg (by simp), List.append_nil]
                        exact HJ2.out.2
                      clear hks hkb
                      go_wp2
                      go_roundw
                      case rel => exact ⟨j + 1, ro, rc, NL, ⟨by omega, HNX.out⟩, by go_num, rfl, HT22.out⟩
                      case measure => simp [intOf]; omega
              · have g5 : decide (a1 + y1 ≤ 140737488355328) = false := by simpa using hd
                have g6 : 140737488355328 < a1 + y1 := by omega
                have HNX : Hid (NL = PA ++ ((AL.take (j + 1)).filter (keepB n bs R v hp sp M ((u : Int), a1, a2))).map (wayOf ((u : Int), a1, a2))) := by
                  show _ = _
                  rw [hks, show keepB n bs R v hp sp M ((u : Int), a1, a2) (y0, y1, y2) = false by rw [hkb]; simp [hd], if_neg (by simp), List.append_nil]
                  exact HJ2.out.2
                clear hks hkb
                go_wp2
                go_roundw
                case rel => exact ⟨j + 1, ro, rc, NL, ⟨by omega, HNX.out⟩, by go_num, rfl, HT22.out⟩
                case measure => simp [intOf]; omega
            · obtain rfl : j = AL.length := by omega
              rw [List.take_length] at HJ2
              have HZ : Hid ((ins.take (k + 1)).flatMap (needI n bs R v hp sp) = NL) := by
                show _ = _
                rw [HSA.out, HJ2.out.2, ← HNA.out, HJ.out.2.2.2]
              have HTF : Hid (type_of% HT2.out.fill) := HT2.out.fill
              have k1 : AL.length = GL.length := HLN.out.1.symm
              have k2 : (AL.length : Int) = (GL.length : Int) := by omega
              go_wp2
              go_roundw
              case rel => exact ⟨k + 1, ro, rc, by omega, by go_num, by rw [HZ.out], by rw [HZ.out]; exact HTF.out⟩
              case measure => simp [intOf]; omega
    · obtain rfl : k = ins.length := by omega
      rw [List.take_length] at HT ⊢
      have HFI2 : Hid (w3.heap.size ≤ wr.heap.size ∧ Below w.heap.size w wr ∧ w.heap.size ≤ w3.heap.size) := ⟨HT.out.below.size, (HOL.out wr HT.out.below).2.2.2, (HOL.out w3 (Below.refl _ _)).2.2.2.size⟩
      go_wp2
      go_ret
      rw [HND.out]
      exact ⟨lo, lc, rfl, rowX_base HT.out.rowA HFI2.out.2.2, HFI2.out.2.1⟩
end
end Go.Proofs.YtbkclhaonbjobaaGreatDoor.Wt
