/- Contract. The document's Out once more: its row lies in memory of its own. (As in the overlay's texts.) The document's shortcuts are the program's. -/
import Derived.Test.YtbkclhaonbjobaaGreatDoorQzX
import Derived.Test.YtbkclhaonbjobaaGreatDoorQsX
import Derived.Maps.AppendAt
namespace Go.Proofs.YtbkclhaonbjobaaGreatDoor.Wt
open Go Go.RowKit Go.Extern Go.Deep

attribute [local go_sem] Oper.semAt_some

/-- an overlay with its arcs. -/
def OvT (PX : Nat → Option Obj) (B0 : Nat) (w : World) (pb n : Nat) (bs : List Bool) (R : Bool → Nat → Rw) (zs : List A4) : Prop := IsOv PX B0 w pb n bs R ((aliveN n bs : Nat) : Int) ((zs.length : Nat) : Int) ∧ Tied n bs R zs
/-- does an arc's weight, where there is one, not surpass it? -/
def hasQ (ow : Option Int) (s : Int) : Bool := match ow with
  | some k => decide (k ≤ s)
  | none => false
/-- what a Put that is right makes of the arcs. -/
def putW (zs : List A4) (a : A4) : List A4 := if hasQ (wtA zs a.1 a.2.1) a.2.2.1 then zs else putZ zs a
theorem putW_len (zs : List A4) (a : A4) : (putW zs a).length ≤ zs.length + 1 := by
  unfold putW
  split
  · omega
  · exact putZ_len _
theorem ZB.putW {zs : List A4} (h : ZB zs) {a : A4} (ha : 0 ≤ a.2.2.1 ∧ a.2.2.1 ≤ 140737488355328) : ZB (Go.Proofs.YtbkclhaonbjobaaGreatDoor.Wt.putW zs a) := by
  unfold Go.Proofs.YtbkclhaonbjobaaGreatDoor.Wt.putW
  split
  · exact h
  · exact h.put ha
/-- the shortcuts put in one by one. -/
def putsZ (v : Int) (zs : List A4) (L : List S3) : List A4 := L.foldl (fun z s => putW z (s.1, s.2.1, s.2.2, v)) zs
theorem putsZ_succ {v : Int} {zs : List A4} {L : List S3} {k : Nat} {s : S3} (h : L[k]? = some s) : putsZ v zs (L.take (k + 1)) = putW (putsZ v zs (L.take k)) (s.1, s.2.1, s.2.2, v) := by
  unfold putsZ
  rw [List.take_add_one, h, List.foldl_append]
  rfl
theorem putsZ_len (v : Int) : ∀ (L : List S3) (zs : List A4), (putsZ v zs L).length ≤ zs.length + L.length
  | [], _ => Nat.le_refl _
  | s :: r, zs => by
    have h1 := putsZ_len v r (putW zs (s.1, s.2.1, s.2.2, v))
    have h2 := putW_len zs (s.1, s.2.1, s.2.2, v)
    show (putsZ v (putW zs (s.1, s.2.1, s.2.2, v)) r).length ≤ _
    rw [List.length_cons]
    omega
theorem putsZ_zb (v : Int) : ∀ (L : List S3) (zs : List A4), ZB zs → (∀ s ∈ L, 0 ≤ s.2.2 ∧ s.2.2 ≤ 140737488355328) → ZB (putsZ v zs L)
  | [], _, h, _ => h
  | s :: r, zs, h, hs => putsZ_zb v r _ (h.putW (a := (s.1, s.2.1, s.2.2, v)) (hs s (by simp))) fun x hx => hs x (by simp [hx])
section
variable {PX PY : Nat → Option Obj} {w w' : World} {B0 pb n : Nat} {bs : List Bool} {R : Bool → Nat → Rw} {zs : List A4} {nodes arcs : Int}
theorem IsOv.narrow (h : IsOv PY B0 w pb n bs R nodes arcs) (hw : Wider PX PY) : IsOv PX B0 w pb n bs R nodes arcs := by
  obtain ⟨B, ab, sb, h0, hk, h2⟩ := h
  exact ⟨B, ab, sb, h0, ⟨hk.box, hk.al, hk.row, hk.bl, hk.big, hk.own, hk.low, hk.two, fun X o hX => hk.prot X o (hw X o hX), hk.apart⟩, h2⟩
theorem ovt_put (h : OvT PX B0 w pb n bs R zs) (hz : zs.length ≤ 200000) (x y wt via : Int) (hc : putErr n bs x y wt via = 0) :
    Calls Tryz.prog 25 #[.pointer (some ⟨pb, 0, none⟩), .int .i64 x, .int .i64 y, .int .u64 wt, .int .i64 via] w fun e w' => ∃ r0 R', e = .returned (.tuple #[r0, .nilIface]) ∧ OvT PX B0 w' pb n bs R' (putW zs (x, y, wt, via)) ∧ Below B0 w w' := by
  have hs := h.1.size
  have hwt : weightM n bs R x y = wtA zs x y := h.2.weight h.1.inv x y
  refine (h.1.put x y wt via (by omega)).mono ?_
  rintro e w' (⟨c, h0, h1, _⟩ | ⟨k, h1, h2, rfl, hb⟩ | ⟨a, b, v1, v2, rfl, rfl, h3, ⟨han, hbn, la, lb⟩, rfl, hO, hb⟩)
  · exact absurd (h1.symm.trans hc) h0
  · refine ⟨_, R, rfl, ?_, hb.mono hs⟩
    have e : putW zs (x, y, wt, via) = zs := by
      unfold putW
      rw [if_pos]
      show hasQ (wtA zs x y) wt = true
      rw [← hwt, h1]
      exact decide_eq_true h2
    rw [e]
    exact ⟨h.1.keep hb, h.2⟩
  · have hab : a ≠ b := by
      obtain ⟨a', b', e1, e2, _, _, h4, _, _⟩ := putErr_zero hc
      intro e
      apply h4
      omega
    have ht := h.2.put h.1.inv han hbn hab la lb wt via v1 v2
    have e1 := ht.arcs hO.inv
    have e2 := arcSum_put h.1.inv han hbn la lb wt via v1 v2
    have e3 := h.2.arcs h.1.inv
    have e : putW zs ((a : Int), (b : Int), wt, via) = putZ zs ((a : Int), (b : Int), wt, via) := by
      unfold putW
      rw [if_neg]
      show ¬ hasQ (wtA zs (a : Int) (b : Int)) wt = true
      rw [← hwt]
      cases hw : weightM n bs R (a : Int) (b : Int) with
      | none => simp [hasQ]
      | some k =>
        have := h3 k hw
        simp only [hasQ, decide_eq_true_eq]
        omega
    rw [e]
    refine ⟨_, _, rfl, ⟨?_, ht⟩, hb⟩
    have e4 : ((zs.length : Nat) : Int) + (if (weightM n bs R (a : Int) (b : Int)).isNone then 1 else 0) = (((putZ zs ((a : Int), (b : Int), wt, via)).length : Nat) : Int) := by
      rw [← e1, e2, e3]
      split <;> simp
    rw [← e4]
    exact hO
theorem ovt_remove (h : OvT PX B0 w pb n bs R zs) (hz : zs.length ≤ 200000) (x : Int) (hx : aliveB n bs x = true) :
    Calls Tryz.prog 29 #[.pointer (some ⟨pb, 0, none⟩), .int .i64 x] w fun e w' => ∃ R', e = .returned .nilIface ∧ OvT PX B0 w' pb n (bs.set x.toNat false) R' (remZ zs x) ∧ Below B0 w w' := by
  have hA : aliveN n bs ≤ n * 1 := sumN_le n _ 1 (fun i _ => by split <;> omega)
  have hn := h.1.bl.2
  refine (h.1.remove x (by omega) (by omega)).mono ?_
  rintro e w' (⟨h1, _⟩ | ⟨_, u, R', rfl, hu, lu, rfl, hO, hL, hb⟩)
  · rw [hx] at h1
    cases h1
  · have ht := h.2.remove hu hL
    have e1 := ht.arcs hO.inv
    have e2 := arcSum_remove h.1.inv hu lu hL
    have e3 := h.2.arcs h.1.inv
    have e4 := aliveN_remove hu lu
    rw [Int.toNat_natCast]
    refine ⟨R', rfl, ⟨?_, ht⟩, hb⟩
    have e5 : ((zs.length : Nat) : Int) - ((livH bs (R false u).2.1).length : Int) - ((livH bs (R true u).2.1).length : Int) = (((remZ zs (u : Int)).length : Nat) : Int) := by omega
    have e6 : ((aliveN n bs : Nat) : Int) - 1 = ((aliveN n (bs.set u false) : Nat) : Int) := by omega
    rw [← e5, ← e6]
    exact hO
end
end Go.Proofs.YtbkclhaonbjobaaGreatDoor.Wt

namespace Go.Proofs.YtbkclhaonbjobaaGreatDoor
open Go.RowKit Go.Extern Go.Sort

attribute [local go_sem] Oper.semAt_some

set_option maxRecDepth 100000 in
set_option maxHeartbeats 4000000 in
theorem rOut11_own (al : Value) (ao : Option Addr) (cap : Nat) (zs : List A4) (v : Int) (w : World) (hA : HasA4 w (.slice ao zs.length cap) zs) (hz : zs.length ≤ 262144) (hpw : (sideA false zs v).Pairwise fun a b => a.1 ≠ b.1) (bo : Option Addr) (bl bc : Nat) (hal : al = .slice bo bl bc) :
    Calls Tryz.prog 39 #[.agg #[al, .slice ao zs.length cap], .int .i64 v] w fun e w' => ∃ so sc, e = .returned (.slice so (sortA (sideA false zs v)).length sc) ∧ w'.ownsRow w.heap.size 108 3 (.slice so (sortA (sideA false zs v)).length sc) (sortA (sideA false zs v)).length (flatH (sortA (sideA false zs v))) ∧ Below w.heap.size w w' := by
  subst hal
  obtain ⟨W0, hW0⟩ : ∃ W0, w.alloc (.cells #[.slice bo bl bc, .slice ao zs.length cap] 33) = W0 := ⟨_, rfl⟩
  have HW0 : Hid (w.alloc (.cells #[.slice bo bl bc, .slice ao zs.length cap] 33) = W0) := hW0
  have hB0 : Below w.heap.size w W0 := by rw [← hW0]; exact (Below.refl _ w).alloc (Nat.le_refl _) _
  have hbx : W0.heap[w.heap.size]? = some (.cells #[.slice bo bl bc, .slice ao zs.length cap] 33) := by rw [← hW0]; exact heap_new _ _
  have HG : Hid (∀ wx, Below W0.heap.size W0 wx → HasA4 wx (.slice ao zs.length cap) zs ∧ Below w.heap.size w wx) := fun wx hwx => by
    have hb := hB0.trans (hwx.mono hB0.size)
    exact ⟨hA.keep hb, hb⟩
  have g0 : W0.cell? ⟨w.heap.size, 0, none⟩ = some (.slice bo bl bc) := by simp [World.cell?, hbx]
  have g1 : W0.cell? ⟨w.heap.size, 1, none⟩ = some (.slice ao zs.length cap) := by simp [World.cell?, hbx]
  have gs : w.heap.size < W0.heap.size := lt_of_get hbx
  have HPW : Hid ((sideA false zs v).Pairwise fun a b => a.1 ≠ b.1) := hpw
  clear hW0 hB0 hbx hA hpw
  go_enter Tryz.func39, Tryz.ntmps39
  go_wp2_with fail
  rw [HW0.out]
  go_wp2_with fail
  clear g0 g1 gs
  go_loopw [5, 11] (fun lv iv wr => ∃ (k : Nat) (so : Option Addr) (sc : Nat), k ≤ zs.length ∧ lv = .slice so (sortA (sideA false (zs.take k) v)).length sc ∧ iv = .int .i64 (k : Nat) ∧ wr.ownsRow W0.heap.size 108 3 (.slice so (sortA (sideA false (zs.take k) v)).length sc) (sortA (sideA false (zs.take k) v)).length (flatH (sortA (sideA false (zs.take k) v))) ∧ Below W0.heap.size W0 wr) (fun _ iv _ => zs.length - (intOf iv).toNat)
  case atStart => exact ⟨0, none, 0, Nat.zero_le _, rfl, rfl, World.ownsRow_nil _ _ _ _, Below.refl _ _⟩
  case round =>
    obtain ⟨k, so, sc, hk, rfl, rfl, hown, hbw⟩ := hrel
    by_cases hlt : k < zs.length
    · obtain ⟨a, ha⟩ : ∃ a, zs[k]? = some a := ⟨zs[k], List.getElem?_eq_getElem hlt⟩
      obtain ⟨lb, lof, rfl, ll, p0, p1, p2, p3⟩ := (HG.out wr hbw).1.at ha
      have hsu := sideA_succ false v ha
      have hri := sortA_rise (sideA_take_pw k HPW.out)
      have hle : (sortA (sideA false (zs.take k) v)).length ≤ 262144 := by
        rw [sortA_len]
        exact Nat.le_trans (sideA_len _ _ _) (Nat.le_trans (by rw [List.length_take]; omega) hz)
      obtain ⟨a0, a1, a2, a3⟩ := a
      simp only at p0 p1 p2 p3 hsu
      obtain ⟨L, hL⟩ : ∃ L, sideA false (zs.take k) v = L := ⟨_, rfl⟩
      rw [hL] at hown hsu hri hle ⊢
      obtain ⟨Wa, hWa⟩ : ∃ Wa, wr.alloc (.cells #[.int .i64 a0, .int .i64 a1, .int .u64 a2, .int .i64 a3] 86) = Wa := ⟨_, rfl⟩
      have HWA : Hid (wr.alloc (.cells #[.int .i64 a0, .int .i64 a1, .int .u64 a2, .int .i64 a3] 86) = Wa) := hWa
      have bWa : Below wr.heap.size wr Wa := by rw [← hWa]; exact (Below.refl _ wr).alloc (Nat.le_refl _) _
      have hnew : Wa.heap[wr.heap.size]? = some (.cells #[.int .i64 a0, .int .i64 a1, .int .u64 a2, .int .i64 a3] 86) := by rw [← hWa]; exact heap_new _ _
      have HOW : Hid (Wa.ownsRow W0.heap.size 108 3 (.slice so (sortA L).length sc) (sortA L).length (flatH (sortA L)) ∧ Below W0.heap.size W0 Wa) := ⟨rowR_keep hown bWa, hbw.trans (bWa.mono hbw.size)⟩
      have n0 : Wa.cell? ⟨wr.heap.size, 0, none⟩ = some (.int .i64 a0) := by simp [World.cell?, hnew]
      have n1 : Wa.cell? ⟨wr.heap.size, 1, none⟩ = some (.int .i64 a1) := by simp [World.cell?, hnew]
      have n2 : Wa.cell? ⟨wr.heap.size, 2, none⟩ = some (.int .u64 a2) := by simp [World.cell?, hnew]
      have n3 : Wa.cell? ⟨wr.heap.size, 3, none⟩ = some (.int .i64 a3) := by simp [World.cell?, hnew]
      have ns : wr.heap.size < Wa.heap.size := lt_of_get hnew
      have t1 : (k : Int) < (zs.length : Int) := by omega
      have t2 : (0 : Int) ≤ (k : Int) := by omega
      clear hown hbw ha hL hWa bWa hnew
      by_cases hav : a0 = v
      · subst hav
        simp only [Bool.false_eq_true, if_false, if_true] at hsu
        have hsu2 : sortA (sideA false (zs.take (k + 1)) a0) = insH (sortA L) (lowH (sortA L) a1) (a1, a2, a3) := by rw [hsu, sortA_snoc]; rfl
        have HSU : Hid (sortA (sideA false (zs.take (k + 1)) a0) = insH (sortA L) (lowH (sortA L) a1) (a1, a2, a3)) := hsu2
        have hcp := rowR_cap HOW.out.1
        have HPUT : Hid (type_of% (rPut11_calls so sc (sortA L) (a1, a2, a3) Wa (hs_of_rowR HOW.out.1) hcp.1 hcp.2 hri hle)) := rPut11_calls so sc (sortA L) (a1, a2, a3) Wa (hs_of_rowR HOW.out.1) hcp.1 hcp.2 hri hle
        clear hsu hsu2 hcp hri
        go_upto_region 5 with fail
        rw [HWA.out]
        go_wp2_with fail
        refine HPUT.out.mono ?_
        rintro e w2 ⟨v', rfl, hown2, hb2⟩
        obtain ⟨ro, rc, hv2⟩ := rowR_slice hown2
        subst hv2
        have Y : Hid (w2.ownsRow W0.heap.size 108 3 (.slice ro (insH (sortA L) (lowH (sortA L) a1) (a1, a2, a3)).length rc) (insH (sortA L) (lowH (sortA L) a1) (a1, a2, a3)).length (flatH (insH (sortA L) (lowH (sortA L) a1) (a1, a2, a3))) ∧ Below W0.heap.size W0 w2) := ⟨rowR_base hown2 HOW.out.2.size, btr HOW.out.2 hb2⟩
        clear hown2 hb2 n0 n1 n2 n3 ns
        generalize insH (sortA L) (lowH (sortA L) a1) (a1, a2, a3) = L2 at *
        go_wp2
        go_roundw
        case rel => exact ⟨k + 1, ro, rc, by omega, by rw [HSU.out], by go_num, by rw [HSU.out]; exact Y.out.1, Y.out.2⟩
        case measure => simp [intOf]; omega
      · simp only [Bool.false_eq_true, if_false, if_neg hav, List.append_nil] at hsu
        have HSU : Hid (sideA false (zs.take (k + 1)) v = L) := hsu
        have hb1 : (a0 == v) = false := beq_eq_false_iff_ne.2 hav
        clear hsu hri
        go_upto_region 5 with fail
        rw [HWA.out]
        go_wp2
        go_roundw
        case rel => exact ⟨k + 1, so, sc, by omega, by rw [HSU.out], by go_num, by rw [HSU.out]; exact HOW.out.1, HOW.out.2⟩
        case measure => simp [intOf]; omega
    · obtain rfl : k = zs.length := by omega
      rw [List.take_length] at hown ⊢
      have HF : Hid (wr.ownsRow w.heap.size 108 3 (.slice so (sortA (sideA false zs v)).length sc) (sortA (sideA false zs v)).length (flatH (sortA (sideA false zs v))) ∧ Below w.heap.size w wr) := ⟨rowX_base hown (HG.out W0 (Below.refl _ _)).2.size, (HG.out wr hbw).2⟩
      clear hown hbw
      go_wp2
      go_ret
      exact ⟨so, sc, rfl, HF.out.1, HF.out.2⟩
section
variable {PX : Nat → Option Obj} {w : World} {B0 pb n : Nat} {bs : List Bool} {R : Bool → Nat → Rw} {zs : List A4}
end
end Go.Proofs.YtbkclhaonbjobaaGreatDoor
namespace Go.Proofs.YtbkclhaonbjobaaGreatDoor.Wt
open Go Go.RowKit Go.Extern Go.Deep

attribute [local go_sem] Oper.semAt_some

/-- append of the document's shortcuts: where the row lies then. -/
theorem wpList_append_rsA {w : World} {ops : Array Oper} {rest : List Oper} {o : Oper} {a : Act} {Q : Exit → Act → World → Prop} (hgd : o.guard = none) (s x : Operand)
    (ho : o.op = .call { callee := .builtin .append, args := #[s, x], argTypes := #[41, 41] })
    (base : Nat) (v : Value) (L : List S3) (hs : a.eval s = v) (hown : w.ownsRow base 68 3 v L.length (flatS L))
    (ad : Addr) (ac : Nat) (xs : List S3) (hx : a.eval x = .slice (some ad) xs.length ac) (hl : HasSs w (.slice (some ad) xs.length ac) xs)
    (hlen : L.length + xs.length ≤ 1048576) (hbase : base ≤ w.heap.size)
    (h : ∀ v' w', w'.ownsRow base 68 3 v' (L ++ xs).length (flatS (L ++ xs)) → w.grownBy w' v.ownBlock → (v'.ownBlock = v.ownBlock ∨ v'.ownBlock = some w.heap.size) → wpList Tryz.prog ops Q rest (a.put o.dst v') w') : wpList Tryz.prog ops Q (o :: rest) a w := by
  obtain ⟨i0, hi, hz0, hz1, hz2⟩ := infoRS'
  refine wpList_append_own_at _ hgd s x 41 ho base 68 i0 _ 3 24 Tryz.underlying41 hi hz0 hz1 hz2 rfl (by decide) v L.length (flatS L) hs hown ad xs.length ac (flatS xs) hx (flatS_len xs) (flatS_at hl) (flatS_one xs) (by unfold maxLen; omega) (by omega) hbase ?_
  intro v' w' h1 h2 _ h4
  exact h v' w' (by rw [List.length_append, flatS_append]; exact h1) h2 h4
/-- two growing rows beside memory that stays. -/
structure TwoG (B P Q : Nat) (w0 wq wr : World) (av : Value) (A : List S3) (wv : Value) (W : List S3) : Prop where
  rowA : wr.ownsRow B 68 3 av A.length (flatS A)
  rowW : wr.ownsRow B 68 3 wv W.length (flatS W)
  outA : ∀ g, av.ownBlock = some g → g < P ∨ Q ≤ g
  outW : ∀ g, wv.ownBlock = some g → g < P ∨ Q ≤ g
  ne : ∀ g, av.ownBlock = some g → wv.ownBlock ≠ some g
  below : Below B w0 wr
  base : B ≤ w0.heap.size
  keep : ∀ j, P ≤ j → j < Q → wr.heap[j]? = wq.heap[j]?
  size : Q ≤ wr.heap.size
section
variable {B P Q : Nat} {w0 wq wr wx w' : World} {av wv v' : Value} {A W : List S3} {y : S3}
theorem TwoG.later (h : TwoG B P Q w0 wq wr av A wv W) (hb : Below wr.heap.size wr wx) : TwoG B P Q w0 wq wx av A wv W :=
  ⟨row_below9 h.rowA hb, row_below9 h.rowW hb, h.outA, h.outW, h.ne, h.below.trans (hb.mono (Nat.le_trans h.base h.below.size)), h.base, fun j h1 h2 => (hb.block j (Nat.lt_of_lt_of_le h2 h.size)).trans (h.keep j h1 h2), Nat.le_trans h.size hb.size⟩
theorem TwoG.hole (h : TwoG B P Q w0 wq wr av A wv W) (hb : Below wr.heap.size wr wx) : TwoG B wr.heap.size wx.heap.size w0 wx wx av A wv W :=
  ⟨row_below9 h.rowA hb, row_below9 h.rowW hb, fun g hg => Or.inl (h.rowA.lt g hg).2, fun g hg => Or.inl (h.rowW.lt g hg).2, h.ne, h.below.trans (hb.mono (Nat.le_trans h.base h.below.size)), h.base, fun _ _ _ => rfl, Nat.le_refl _⟩
theorem TwoG.fill (h : TwoG B P Q w0 wq wr av A wv W) : TwoG B 0 0 w0 w0 wr av A wv W :=
  ⟨h.rowA, h.rowW, fun _ _ => Or.inr (Nat.zero_le _), fun _ _ => Or.inr (Nat.zero_le _), h.ne, h.below, h.base, fun _ _ h2 => absurd h2 (Nat.not_lt_zero _), Nat.zero_le _⟩
theorem TwoG.addA (h : TwoG B P Q w0 wq wr av A wv W) (ho : w'.ownsRow B 68 3 v' (A ++ [y]).length (flatS (A ++ [y]))) (hg : wr.grownBy w' av.ownBlock) (hv : v'.ownBlock = av.ownBlock ∨ v'.ownBlock = some wr.heap.size) : TwoG B P Q w0 wq w' v' (A ++ [y]) wv W := by
  have hB := Nat.le_trans h.base h.below.size
  refine ⟨ho, row_keep9 h.rowW fun g hgw => hg.block g (h.rowW.lt g hgw).2 (fun e => h.ne g e.symm hgw), fun g e => ?_, h.outW, fun g e => ?_, below_grown9 h.below h.rowA hg hB (Nat.le_refl _), h.base, fun j h1 h2 => (hg.block j (Nat.lt_of_lt_of_le h2 h.size) (fun e => by have := h.outA j e.symm; omega)).trans (h.keep j h1 h2), Nat.le_trans h.size hg.size⟩
  · rcases hv with hv | hv
    · exact h.outA g (by rw [← hv]; exact e)
    · rw [hv] at e
      have := Option.some.inj e
      have := h.size
      omega
  · rcases hv with hv | hv
    · exact h.ne g (by rw [← hv]; exact e)
    · rw [hv] at e
      have h1 := Option.some.inj e
      intro h2
      have := (h.rowW.lt g h2).2
      omega
theorem two_start (w : World) : TwoG w.heap.size 0 0 w w w (.slice none 0 0) [] (.slice none 0 0) [] :=
  ⟨World.ownsRow_nil _ _ _ _, World.ownsRow_nil _ _ _ _, (fun _ e => by cases e), (fun _ e => by cases e), (fun _ e => by cases e), Below.refl _ _, Nat.le_refl _, fun _ _ h => absurd h (Nat.not_lt_zero _), Nat.zero_le _⟩
end
end Go.Proofs.YtbkclhaonbjobaaGreatDoor.Wt

namespace Go.Proofs.YtbkclhaonbjobaaGreatDoor.Wt
open Go Go.RowKit Go.Extern Go.Deep

theorem witL_of {n : Nat} {Z : List (Int × Int × Int)} {hops se : Int} {W : List S3} {a1 : Int} (h : ∀ x ∈ W, x.1 = a1) : witL n Z hops se W = W.filter (seenB n Z a1.toNat hops se (mostS W)) := by
  cases W with
  | nil => rfl
  | cons x r =>
    rw [← h x (by simp)]
    rfl
/-- the greatest of the ways. -/
def mostG (i : H3) (G : List H3) : Int := G.foldl (fun m y => max m (i.2.1 + y.2.1)) 0
theorem mostG_snoc (i : H3) (G : List H3) (y : H3) : mostG i (G ++ [y]) = max (mostG i G) (i.2.1 + y.2.1) := by
  unfold mostG
  rw [List.foldl_append]
  rfl
theorem mostG_ge (i : H3) {G : List H3} : ∀ {y : H3}, y ∈ G → i.2.1 + y.2.1 ≤ mostG i G := by
  have key : ∀ (l : List H3) (m : Int), m ≤ l.foldl (fun m y => max m (i.2.1 + y.2.1)) m ∧ ∀ y ∈ l, i.2.1 + y.2.1 ≤ l.foldl (fun m y => max m (i.2.1 + y.2.1)) m := by
    intro l
    induction l with
    | nil => intro m; exact ⟨Int.le_refl _, fun a ha => by simp at ha⟩
    | cons x r ih =>
      intro m
      obtain ⟨h1, h2⟩ := ih (max m (i.2.1 + x.2.1))
      have e : (x :: r).foldl (fun m y => max m (i.2.1 + y.2.1)) m = r.foldl (fun m y => max m (i.2.1 + y.2.1)) (max m (i.2.1 + x.2.1)) := rfl
      rw [e]
      refine ⟨by omega, fun a ha => ?_⟩
      rcases List.mem_cons.1 ha with rfl | ha
      · omega
      · exact h2 a ha
  intro y hy
  exact (key G 0).2 y hy
theorem mostG_le (i : H3) {b : Int} (h0 : 0 ≤ b) : ∀ {G : List H3}, (∀ y ∈ G, i.2.1 + y.2.1 ≤ b) → 0 ≤ mostG i G ∧ mostG i G ≤ b := by
  have key : ∀ (l : List H3) (m : Int), 0 ≤ m → m ≤ b → (∀ y ∈ l, i.2.1 + y.2.1 ≤ b) → 0 ≤ l.foldl (fun m y => max m (i.2.1 + y.2.1)) m ∧ l.foldl (fun m y => max m (i.2.1 + y.2.1)) m ≤ b := by
    intro l
    induction l with
    | nil => intro m h1 h2 _; exact ⟨h1, h2⟩
    | cons x r ih =>
      intro m h1 h2 hx
      have h3 := hx x (by simp)
      exact ih (max m (i.2.1 + x.2.1)) (by omega) (by omega) fun a ha => hx a (by simp [ha])
  intro G hG
  exact key G 0 (Int.le_refl _) h0 hG
/-- is a way of the document's needed? -/
def keepB (n : Nat) (bs : List Bool) (R : Bool → Nat → Rw) (v hp sp mo : Int) (i y : H3) : Bool := decide (i.2.1 + y.2.1 ≤ 140737488355328) && !hasA n bs R (wayOf i y) && decide (i.2.1 + y.2.1 < goalF n (rowsZ (rowW n bs R) v n) i.1.toNat hp sp mo y.1)
/-- the ways' arcs: those that don't lead back. -/
def awayL (i : H3) (outs : List H3) : List H3 := outs.filter fun y => decide (y.1 ≠ i.1)
theorem ref_need {n : Nat} {bs : List Bool} {R : Bool → Nat → Rw} {zs : List A4} {v : Int} (ht : Tied n bs R zs) (hi : OvInv n bs R) (hb : ZB zs) (hn : n ≤ 512) (hp sp : Int) {i : H3} (him : i ∈ outM n bs R true v) : ((awayL i (outM n bs R false v)).filter (keepB n bs R v hp sp (mostG i (awayL i (outM n bs R false v))) i)).map (wayOf i) = needI n bs R v hp sp i := by
  have hz := rowsZ_fine (skip := v) (rowsW_tied ht hi hb) hn
  obtain ⟨hiw, hia, hiv⟩ := half_ok ht hi hb him
  obtain ⟨u, hu, hun, hul⟩ := aliveB_iff.1 hia
  have hW : ∀ x ∈ dearL n bs R i (outM n bs R false v), x.2.2 ≤ 140737488355328 := fun x hx => (dear_ok ht hi hb hiw.1 hx).2.2.2
  have hmo : mostS (dearL n bs R i (outM n bs R false v)) ≤ mostG i (awayL i (outM n bs R false v)) := by
    refine mostS_le ?_ fun x hx => ?_
    · exact (mostG_le i (b := 281474976710656) (by omega) fun y hy => by have := (half_ok ht hi hb (List.mem_filter.1 hy).1).1; omega).1
    · unfold dearL at hx
      obtain ⟨y, hy, rfl⟩ := List.mem_map.1 hx
      obtain ⟨hy, hd⟩ := List.mem_filter.1 hy
      unfold dearB at hd
      simp only [Bool.and_eq_true, decide_eq_true_eq] at hd
      exact mostG_ge i (List.mem_filter.2 ⟨hy, by simpa using hd.1.1⟩)
  unfold needI
  rw [witL_of (a1 := i.1) (fun x hx => by unfold dearL at hx; obtain ⟨y, _, rfl⟩ := List.mem_map.1 hx; rfl)]
  have hge : ∀ x ∈ dearL n bs R i (outM n bs R false v), x.2.2 ≤ mostS (dearL n bs R i (outM n bs R false v)) := fun x hx => mostS_ge hx
  have hmem : ∀ y ∈ outM n bs R false v, dearB n bs R i y = true → wayOf i y ∈ dearL n bs R i (outM n bs R false v) := fun y hy hd => List.mem_map.2 ⟨y, List.mem_filter.2 ⟨hy, hd⟩, rfl⟩
  generalize hM : mostS (dearL n bs R i (outM n bs R false v)) = M at *
  generalize hM2 : mostG i (awayL i (outM n bs R false v)) = M2 at *
  rw [show (dearL n bs R i (outM n bs R false v)) = ((outM n bs R false v).filter (dearB n bs R i)).map (wayOf i) from rfl, List.filter_map, List.filter_filter]
  unfold awayL
  rw [List.filter_filter]
  congr 1
  apply List.filter_congr
  intro y hy
  cases hd : dearB n bs R i y with
  | true =>
    have h1 := hge _ (hmem y hy hd)
    have h2 : (wayOf i y).2.2 = i.2.1 + y.2.1 := rfl
    have h3 := hW _ (hmem y hy hd)
    obtain ⟨w, hw, _⟩ := aliveB_iff.1 (half_ok ht hi hb hy).2.1
    have hmost := goalF_most (se := sp) (mo1 := M) (mo2 := M2) (d := i.2.1 + y.2.1) hz hun hmo (by omega) (by omega) hp y.1
    unfold dearB at hd
    simp only [Bool.and_eq_true, decide_eq_true_eq] at hd
    show (keepB n bs R v hp sp M2 i y && decide (y.1 ≠ i.1)) = (seenB n (rowsZ (rowW n bs R) v n) i.1.toNat hp sp M (wayOf i y) && true)
    unfold seenB keepB
    rw [decide_eq_true hd.1.1, decide_eq_true hd.1.2, hd.2]
    simp only [Bool.and_true, Bool.true_and, hu, Int.toNat_natCast]
    exact decide_eq_decide.2 hmost.symm
  | false =>
    show (keepB n bs R v hp sp M2 i y && decide (y.1 ≠ i.1)) = (seenB n (rowsZ (rowW n bs R) v n) i.1.toNat hp sp M (wayOf i y) && false)
    rw [Bool.and_false]
    unfold dearB at hd
    unfold keepB
    cases h1 : decide (y.1 ≠ i.1) with
    | false => simp
    | true =>
      rw [h1] at hd
      simp only [Bool.true_and] at hd
      rw [hd]
      simp
end Go.Proofs.YtbkclhaonbjobaaGreatDoor.Wt
