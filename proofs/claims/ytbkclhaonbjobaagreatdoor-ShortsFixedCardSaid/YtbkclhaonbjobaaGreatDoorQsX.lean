/- the program's overlay and the reference's, side by side in memory. the law's step: what its walks lean on. viaductlaw11.step, case by case. (Printed by genop.py.) viaductlaw11.step: Put and Remove. (Printed by genoq.py.) the law OverlayPlays. viaductref04.Few. -/
import Derived.Test.YtbkclhaonbjobaaGreatDoorQgX
import Derived.Test.YtbkclhaonbjobaaGreatDoorQmX
import Derived.Deep.RegionHeld3
import Derived.BigRegion
import Derived.Test.YtbkclhaonbjobaaGreatDoorQvX
import Derived.Test.YtbkclhaonbjobaaGreatDoorDocCheck
import Derived.Test.YtbkclhaonbjobaaGreatDoorQnX
namespace Go.Proofs.YtbkclhaonbjobaaGreatDoor
open Go.RowKit Go.Extern Go.Sort

/-- blocks lie as they are told. -/
def Lies (PX : Nat → Option Obj) (w : World) : Prop := ∀ X o, PX X = some o → w.heap[X]? = some o
def Wider (PX PY : Nat → Option Obj) : Prop := ∀ X o, PX X = some o → PY X = some o
section
variable {PX : Nat → Option Obj} {w w' : World} {B0 pb n : Nat} {bs : List Bool} {R : Bool → Nat → Rw} {nodes arcs : Int}
theorem IsOv.lies (h : IsOv PX B0 w pb n bs R nodes arcs) : Lies PX w := fun X o hX => by
  obtain ⟨B, ab, sb, h0, hk, h2⟩ := h
  exact (hk.prot X o hX).1
/-- all that was laid since is guarded. -/
def wrapP (PX : Nat → Option Obj) (K : Nat) (w' : World) : Nat → Option Obj := fun X => if K ≤ X then w'.heap[X]? else PX X
theorem IsOv.wrap (h : IsOv PX B0 w pb n bs R nodes arcs) (hb : Below w.heap.size w w') : IsOv (wrapP PX w.heap.size w') B0 w' pb n bs R nodes arcs ∧ Wider PX (wrapP PX w.heap.size w') := by
  have hl := h.lies
  obtain ⟨B, ab, sb, h0, h1, h2⟩ := h
  have hk := h1.keep hb
  refine ⟨⟨B, ab, sb, h0, ⟨hk.box, hk.al, hk.row, hk.bl, hk.big, hk.own, hk.low, hk.two, fun X o hX => ?_, hk.apart⟩, h2⟩, fun X o hX => ?_⟩
  · unfold wrapP at hX
    split at hX
    · rename_i hKX
      refine ⟨hX, fun e => ?_, fun e => ?_, fun s e => ?_, fun s u hu e => ?_⟩
      · have := lt_of_get h1.box; omega
      · have := lt_of_get h1.al; omega
      · have := lt_of_get (h1.row s); omega
      · have := ((h1.own s u hu).lt _ e).2; omega
    · obtain ⟨p1, p2⟩ := h1.prot X o hX
      exact ⟨(hb.block _ (lt_of_get p1)).trans p1, p2⟩
  · have := lt_of_get (hl X o hX)
    unfold wrapP
    rw [if_neg (by omega)]
    exact hX
/-- a guarded block is written. -/
def updP (PX : Nat → Option Obj) (X : Nat) (o : Obj) : Nat → Option Obj := fun Y => if Y = X then some o else PX Y
theorem IsOv.write (h : IsOv PX B0 w pb n bs R nodes arcs) {X : Nat} {o o' : Obj} (hX : PX X = some o) (h0 : w'.heap[X]? = some o') (h1 : ∀ j, j ≠ X → w'.heap[j]? = w.heap[j]?) : IsOv (updP PX X o') B0 w' pb n bs R nodes arcs := by
  obtain ⟨B, ab, sb, hB, hk, h2⟩ := h
  obtain ⟨_, n1, n2, n3, n4⟩ := hk.prot X o hX
  refine ⟨B, ab, sb, hB, ⟨(h1 _ (Ne.symm n1)).trans hk.box, (h1 _ (Ne.symm n2)).trans hk.al, fun s => (h1 _ (Ne.symm (n3 s))).trans (hk.row s), hk.bl, hk.big, fun s u hu => rowX_keep (hk.own s u hu) (fun g e => h1 g (fun e2 => n4 s u hu (by rw [e, e2]))), hk.low, hk.two, fun Y oy hY => ?_, hk.apart⟩, h2⟩
  unfold updP at hY
  split at hY
  · rename_i e
    subst e
    injection hY with hY
    subst hY
    exact ⟨h0, n1, n2, n3, n4⟩
  · rename_i e
    obtain ⟨p1, p2⟩ := hk.prot Y oy hY
    exact ⟨(h1 Y e).trans p1, p2⟩
end
/-- a value's block is guarded. -/
def Held (PX : Nat → Option Obj) (v : Value) : Prop := ∀ g, v.ownBlock = some g → ∃ o, PX g = some o
/-- the program's overlay and the reference's tell the same. -/
structure Both (PX : Nat → Option Obj) (B0 : Nat) (w : World) (pb n : Nat) (bs : List Bool) (R : Bool → Nat → Rw) (zs : List A4) (av lv : Value) : Prop where
  ov : IsOv PX B0 w pb n bs R ((aliveN n bs : Nat) : Int) ((zs.length : Nat) : Int)
  tie : Tied n bs R zs
  fl : w.ownsRow 0 4 1 av n (bs.map Value.bool)
  ar : w.ownsRow 0 86 4 lv zs.length (flatA4 zs)
  hf : Held PX av
  ha : Held PX lv
section
variable {PX : Nat → Option Obj} {w w' : World} {B0 pb n : Nat} {bs : List Bool} {R : Bool → Nat → Rw} {zs : List A4} {av lv : Value}
theorem held_row {e size m : Nat} {v : Value} {xs : List Value} (h : w.ownsRow 0 e size v m xs) (hh : Held PX v) (h1 : Lies PX w) (h2 : Lies PX w') : w'.ownsRow 0 e size v m xs := rowX_keep h (fun g e => by
  obtain ⟨o, ho⟩ := hh g e
  rw [h1 g o ho, h2 g o ho])
theorem below_row {e size m : Nat} {v : Value} {xs : List Value} (h : w.ownsRow 0 e size v m xs) (hb : Below w.heap.size w w') : w'.ownsRow 0 e size v m xs := rowX_keep h (fun g e => hb.block g (h.lt g e).2)
theorem Held.wider {PY : Nat → Option Obj} {v : Value} (h : Held PX v) (hw : Wider PX PY) : Held PY v := fun g e => by
  obtain ⟨o, ho⟩ := h g e
  exact ⟨o, hw g o ho⟩
theorem Both.keep (h : Both PX B0 w pb n bs R zs av lv) (hb : Below w.heap.size w w') : Both PX B0 w' pb n bs R zs av lv := ⟨h.ov.keep hb, h.tie, below_row h.fl hb, below_row h.ar hb, h.hf, h.ha⟩
theorem Both.wrap (h : Both PX B0 w pb n bs R zs av lv) (hb : Below w.heap.size w w') : Both (wrapP PX w.heap.size w') B0 w' pb n bs R zs av lv :=
  ⟨(h.ov.wrap hb).1, h.tie, below_row h.fl hb, below_row h.ar hb, h.hf.wider (h.ov.wrap hb).2, h.ha.wider (h.ov.wrap hb).2⟩
/-- behind a call of the program's. -/
theorem Both.after (h : Both PX B0 w pb n bs R zs av lv) {bs' : List Bool} {R' : Bool → Nat → Rw} {nodes arcs : Int} (hv : IsOv PX B0 w' pb n bs' R' nodes arcs) : w'.ownsRow 0 4 1 av n (bs.map Value.bool) ∧ w'.ownsRow 0 86 4 lv zs.length (flatA4 zs) :=
  ⟨held_row h.fl h.hf h.ov.lies hv.lies, held_row h.ar h.ha h.ov.lies hv.lies⟩
theorem Both.hasFl (h : Both PX B0 w pb n bs R zs av lv) : HasFl w av bs := fl_of_row h.ov.bl.1 h.fl
theorem Both.hasA4 (h : Both PX B0 w pb n bs R zs av lv) : HasA4 w lv zs := a4_of_row h.ar
theorem wrap_held {K e size m : Nat} {v : Value} {xs : List Value} (hK : w.heap.size ≤ K) (h : w'.ownsRow K e size v m xs) : Held (wrapP PX w.heap.size w') v := fun g e => by
  obtain ⟨h1, h2⟩ := h.lt g e
  refine ⟨w'.heap[g], ?_⟩
  unfold wrapP
  rw [if_pos (by omega)]
  exact Array.getElem?_eq_getElem h2
/-- writing into a guarded block that is none of the rows. -/
theorem Both.write (h : Both PX B0 w pb n bs R zs av lv) {X : Nat} {o o' : Obj} (hX : PX X = some o) (h0 : w'.heap[X]? = some o') (h1 : ∀ j, j ≠ X → w'.heap[j]? = w.heap[j]?) (hf : av.ownBlock ≠ some X) (ha : lv.ownBlock ≠ some X) : Both (updP PX X o') B0 w' pb n bs R zs av lv := by
  have hu : ∀ {v : Value}, v.ownBlock ≠ some X → Held PX v → Held (updP PX X o') v := fun {v} hv hh g e => by
    obtain ⟨og, ho⟩ := hh g e
    exact ⟨og, by unfold updP; rw [if_neg (fun e2 => hv (by rw [← e2]; exact e))]; exact ho⟩
  exact ⟨h.ov.write hX h0 h1, h.tie, rowX_keep h.fl (fun g e => h1 g (fun e2 => hf (by rw [← e2]; exact e))), rowX_keep h.ar (fun g e => h1 g (fun e2 => ha (by rw [← e2]; exact e))), hu hf h.hf, hu ha h.ha⟩
/-- new rows, or the elder one. -/
def NewOr (K : Nat) (v v' : Value) : Prop := v' = v ∨ ∀ g, v'.ownBlock = some g → K ≤ g
end
end Go.Proofs.YtbkclhaonbjobaaGreatDoor

namespace Go.Proofs.YtbkclhaonbjobaaGreatDoor
open Go.RowKit Go.Extern Go.Sort

attribute [local go_sem] Oper.semAt_some

section
variable {PX : Nat → Option Obj} {w w' : World} {B0 pb n : Nat} {bs : List Bool} {R : Bool → Nat → Rw} {zs : List A4} {av lv : Value}
theorem IsOv.outM {nodes arcs : Int} (h : IsOv PX B0 w pb n bs R nodes arcs) (x : Int) : Calls Tryz.prog 22 #[.pointer (some ⟨pb, 0, none⟩), .int .i64 x] w fun e w' => ∃ so sc, e = .returned (.slice so (Go.Proofs.YtbkclhaonbjobaaGreatDoor.outM n bs R false x).length sc) ∧ HasHs w' (.slice so (Go.Proofs.YtbkclhaonbjobaaGreatDoor.outM n bs R false x).length sc) (Go.Proofs.YtbkclhaonbjobaaGreatDoor.outM n bs R false x) ∧ Below w.heap.size w w' := by
  refine (h.out x).mono ?_
  rintro e w' ⟨v', rfl, h1, h2, h3⟩
  unfold Go.Proofs.YtbkclhaonbjobaaGreatDoor.outM
  cases hx : aliveB n bs x with
  | false =>
    rw [h1 hx]
    exact ⟨none, 0, rfl, ⟨none, 0, rfl, fun j a hj => by simp at hj⟩, h3⟩
  | true =>
    have h4 := h2 hx
    obtain ⟨so, sc, rfl⟩ := rowH_slice h4
    exact ⟨so, sc, rfl, hs_of_rowH h4, h3⟩
theorem IsOv.outLe {nodes arcs : Int} (h : IsOv PX B0 w pb n bs R nodes arcs) (s : Bool) (x : Int) : (Go.Proofs.YtbkclhaonbjobaaGreatDoor.outM n bs R s x).length ≤ 65536 := by
  unfold Go.Proofs.YtbkclhaonbjobaaGreatDoor.outM
  cases hx : aliveB n bs x with
  | false => simp
  | true =>
    obtain ⟨u, rfl, hu, _⟩ := aliveB_iff.1 hx
    simpa using h.rowLe s hu
theorem Both.rout {fo ao : Option Addr} {fc ac : Nat} (h : Both PX B0 w pb n bs R zs (.slice fo n fc) (.slice ao zs.length ac)) (hz : zs.length ≤ 262144) (x : Int) : Calls Tryz.prog 39 #[.agg #[.slice fo n fc, .slice ao zs.length ac], .int .i64 x] w fun e w' => ∃ so sc, e = .returned (.slice so (outM n bs R false x).length sc) ∧ HasHs w' (.slice so (outM n bs R false x).length sc) (outM n bs R false x) ∧ Below w.heap.size w w' := by
  have h1 := rOut11_calls (.slice fo n fc) ao ac zs x w h.hasA4 hz (sideA_pw h.tie.one _ _) _ _ _ rfl
  rw [h.tie.outM h.ov.inv] at h1
  exact h1
/-- what a step leaves. -/
def StepPost (PX : Nat → Option Obj) (B0 : Nat) (w : World) (pb n : Nat) (zs : List A4) (av lv : Value) (e : Ending) (w' : World) : Prop := ∃ PX' bs' R' zs' av' lv', e = .returned (.tuple #[.agg #[av', lv'], .bool true]) ∧ Both PX' B0 w' pb n bs' R' zs' av' lv' ∧ Wider PX PX' ∧ zs'.length ≤ zs.length + 1 ∧ Below B0 w w' ∧ NewOr w.heap.size av av' ∧ NewOr w.heap.size lv lv'
/-- the boxes of a step. -/
abbrev opC (a : Op5) : Array Value := #[.int .u8 a.1, .int .i64 a.2.1, .int .i64 a.2.2.1, .int .u64 a.2.2.2.1, .int .i64 a.2.2.2.2]
structure Boxes (wx : World) (p : Nat) (av lv : Value) (a : Op5) : Prop where
  o : wx.heap[p]? = some (.cells #[av, lv] 33 (0, 0))
  x : wx.heap[p + 1]? = some (.cells (opC a) 79 (0, 0))
  r : wx.heap[p + 1 + 1]? = some (.cells #[.slice none 0 0, .slice none 0 0] 33 (0, 0))
end
end Go.Proofs.YtbkclhaonbjobaaGreatDoor

namespace Go.Proofs.YtbkclhaonbjobaaGreatDoor
open Go.RowKit Go.Extern Go.Sort

attribute [local go_sem] Oper.semAt_some

section
variable {PX : Nat → Option Obj} {w : World} {B0 pb n : Nat} {bs : List Bool} {R : Bool → Nat → Rw} {zs : List A4} {fo ao : Option Addr} {fc ac : Nat}


end
end Go.Proofs.YtbkclhaonbjobaaGreatDoor

namespace Go.Proofs.YtbkclhaonbjobaaGreatDoor
open Go.RowKit Go.Extern Go.Sort

attribute [local go_sem] Oper.semAt_some

section
variable {PX : Nat → Option Obj} {w : World} {B0 pb n : Nat} {bs : List Bool} {R : Bool → Nat → Rw} {zs : List A4} {fo ao : Option Addr} {fc ac : Nat}
theorem Both.putNew {av lv : Value} (h : Both PX B0 w pb n bs R zs av lv) (hz : zs.length ≤ 200000) (x y wt via : Int) (hc : putErr n bs x y wt via = 0) (hk : ∀ k, weightM n bs R x y = some k → wt < k) :
    Calls Tryz.prog 25 #[.pointer (some ⟨pb, 0, none⟩), .int .i64 x, .int .i64 y, .int .u64 wt, .int .i64 via] w fun e w' => ∃ R', e = .returned (.tuple #[.bool true, .nilIface]) ∧ IsOv PX B0 w' pb n bs R' ((aliveN n bs : Nat) : Int) (((putZ zs (x, y, wt, via)).length : Nat) : Int) ∧ Tied n bs R' (putZ zs (x, y, wt, via)) ∧ Below B0 w w' := by
  refine (h.ov.put x y wt via (by omega)).mono ?_
  rintro e w' (⟨c, h0, h1, _⟩ | ⟨k, h1, h2, _⟩ | ⟨a, b, v1, v2, rfl, rfl, h3, ⟨han, hbn, la, lb⟩, rfl, hO, hb⟩)
  · exact absurd (h1.symm.trans hc) h0
  · have := hk k h1
    omega
  · have hab : a ≠ b := by
      obtain ⟨a', b', e1, e2, _, _, h4, _, _⟩ := putErr_zero hc
      intro e
      apply h4
      omega
    have ht := h.tie.put h.ov.inv han hbn hab la lb wt via v1 v2
    have e1 := ht.arcs hO.inv
    have e2 := arcSum_put h.ov.inv han hbn la lb wt via v1 v2
    have e3 := h.tie.arcs h.ov.inv
    refine ⟨_, rfl, ?_, ht, hb⟩
    have e4 : ((zs.length : Nat) : Int) + (if (weightM n bs R (a : Int) (b : Int)).isNone then 1 else 0) = (((putZ zs ((a : Int), (b : Int), wt, via)).length : Nat) : Int) := by
      rw [← e1, e2, e3]
      split <;> simp
    rw [← e4]
    exact hO
theorem Both.remYes {av lv : Value} (h : Both PX B0 w pb n bs R zs av lv) (hz : zs.length ≤ 200000) (x : Int) (hx : aliveB n bs x = true) :
    Calls Tryz.prog 29 #[.pointer (some ⟨pb, 0, none⟩), .int .i64 x] w fun e w' => ∃ (u : Nat) (R' : Bool → Nat → Rw), x = (u : Int) ∧ u < n ∧ e = .returned .nilIface ∧ IsOv PX B0 w' pb n (bs.set u false) R' ((aliveN n (bs.set u false) : Nat) : Int) (((remZ zs (u : Int)).length : Nat) : Int) ∧ Tied n (bs.set u false) R' (remZ zs (u : Int)) ∧ Below B0 w w' := by
  have hA : aliveN n bs ≤ n * 1 := sumN_le n _ 1 (fun i _ => by split <;> omega)
  have hn := h.ov.bl.2
  refine (h.ov.remove x (by omega) (by omega)).mono ?_
  rintro e w' (⟨h1, _⟩ | ⟨_, u, R', rfl, hu, lu, rfl, hO, hL, hb⟩)
  · rw [hx] at h1
    cases h1
  · have ht := h.tie.remove hu hL
    have e1 := ht.arcs hO.inv
    have e2 := arcSum_remove h.ov.inv hu lu hL
    have e3 := h.tie.arcs h.ov.inv
    have e4 := aliveN_remove hu lu
    refine ⟨u, R', rfl, hu, rfl, ?_, ht, hb⟩
    have e5 : ((zs.length : Nat) : Int) - ((livH bs (R false u).2.1).length : Int) - ((livH bs (R true u).2.1).length : Int) = (((remZ zs (u : Int)).length : Nat) : Int) := by omega
    have e6 : ((aliveN n bs : Nat) : Int) - 1 = ((aliveN n (bs.set u false) : Nat) : Int) := by omega
    rw [← e5, ← e6]
    exact hO


end
end Go.Proofs.YtbkclhaonbjobaaGreatDoor

namespace Go.Proofs.YtbkclhaonbjobaaGreatDoor
open Go.RowKit Go.Extern Go.Sort

attribute [local go_sem] Oper.semAt_some

section
variable {PX : Nat → Option Obj} {w : World} {B0 pb n : Nat} {bs : List Bool} {R : Bool → Nat → Rw} {zs : List A4}
end
/-- both overlays behind New. -/
theorem both_new {w2 W8 : World} {B0 pb n bb : Nat} {R : Bool → Nat → Rw} {xs : List (Int × Int × Int)} {lv : Value} (hg : graphErr (n : Int) xs = (0, [])) (hO : IsOv noP B0 w2 pb n (List.replicate n true) R (n : Int) ((normA xs).length : Int)) (hR : ∀ s u, u < n → (R s u).2 = (sideL s (normA xs) u, 0)) (hb : Below w2.heap.size w2 W8)
    (hbb : w2.heap.size ≤ bb) (hfl : W8.heap[bb]? = some (.cells (bC (List.replicate n true)) 4 (0, 0))) (har : W8.ownsRow w2.heap.size 86 4 lv (normA xs).length (flatA4 ((normA xs).map asA4))) :
    Both (wrapP noP w2.heap.size W8) B0 W8 pb n (List.replicate n true) R ((normA xs).map asA4) (.slice (some ⟨bb, 0, none⟩) n n) lv := by
  obtain ⟨h1, h2⟩ := (good_iff _ _).1 (good_norm hg)
  have hfin : ∀ a ∈ normA xs, (0 ≤ a.1 ∧ a.1 < (n : Int)) ∧ (0 ≤ a.2.1 ∧ a.2.1 < (n : Int)) := fun a ha => by
    have h3 := h2 a ha
    unfold arcBad at h3
    split at h3
    · cases h3
    · refine ⟨⟨?_, ?_⟩, ⟨?_, ?_⟩⟩ <;> omega
  have hown : W8.ownsRow w2.heap.size 4 1 (.slice (some ⟨bb, 0, none⟩) n n) n ((List.replicate n true).map Value.bool) := by
    refine ⟨by simp, Or.inr ⟨bb, n, _, rfl, hbb, hfl, Nat.le_refl _, by unfold maxLen; omega, by simp [bC], ?_⟩⟩
    unfold bC
    rw [List.take_of_length_le (by simp)]
  have hw := (hO.wrap hb).1
  refine ⟨?_, tied_new (normA_norm xs).rise (fun a ha => (norm_sub ha).2) hfin hR, rowX_base hown (Nat.zero_le _), ?_, wrap_held (Nat.le_refl _) hown, wrap_held (Nat.le_refl _) har⟩
  · rw [aliveN_all, List.length_map]
    exact hw
  · rw [List.length_map]
    exact rowX_base har (Nat.zero_le _)

end Go.Proofs.YtbkclhaonbjobaaGreatDoor

namespace Go.Proofs.YtbkclhaonbjobaaGreatDoor
open Go.RowKit Go.Extern

attribute [local go_sem] Oper.semAt_some

/-- is a graph right, and has it few nodes and arcs? -/
def fewB (N : Int) (xs : List (Int × Int × Int)) (most : Int) : Bool := decide (graphErr N xs = (0, []) ∧ N ≤ most ∧ xs.length ≤ 2000)

set_option maxRecDepth 100000 in
set_option maxHeartbeats 4000000 in
theorem few_calls (N : Int) (ao : Option Addr) (cap : Nat) (xs : List (Int × Int × Int)) (most : Int) (w : World) (hl : HasArcs w (.slice ao xs.length cap) xs) (hm : xs.length ≤ maxLen) :
    Calls Tryz.prog 23 #[.agg #[.int .i64 N, .slice ao xs.length cap], .int .i64 most] w fun e w' => e = .returned (.bool (fewB N xs most)) ∧ Below w.heap.size w w' := by
  obtain ⟨W0, hW0⟩ : ∃ W0, w.alloc (.cells #[.int .i64 N, .slice ao xs.length cap] 24) = W0 := ⟨_, rfl⟩
  have HW0 : Hid (w.alloc (.cells #[.int .i64 N, .slice ao xs.length cap] 24) = W0) := hW0
  have hB0 : Below w.heap.size w W0 := by rw [← hW0]; exact (Below.refl _ w).alloc (Nat.le_refl _) _
  have k0 : W0.heap[w.heap.size]? = some (.cells #[.int .i64 N, .slice ao xs.length cap] 24) := by rw [← hW0]; exact heap_new _ _
  have HDC : Hid (type_of% (docCheck_calls N ao cap xs W0 (hl.keep hB0) hm)) := docCheck_calls N ao cap xs W0 (hl.keep hB0) hm
  have HK : Hid (∀ wx, Below W0.heap.size W0 wx → wx.cell? ⟨w.heap.size, 0, none⟩ = some (.int .i64 N) ∧ wx.cell? ⟨w.heap.size, 1, none⟩ = some (.slice ao xs.length cap) ∧ w.heap.size < wx.heap.size ∧ Below w.heap.size w wx) := fun wx hx => by
    have g := (hx.block _ (lt_of_get k0)).trans k0
    exact ⟨(cell_two g).1, (cell_two g).2.1, lt_of_get g, hB0.trans (hx.mono hB0.size)⟩
  have HTC : Hid (graphErr N xs = (0, []) ∨ (graphErr N xs ≠ (0, []) ∧ ((graphErr N xs).1 != 0 || decide (0 < (graphErr N xs).2.length)) = true)) := by
    by_cases h : graphErr N xs = (0, [])
    · exact Or.inl h
    · refine Or.inr ⟨h, ?_⟩
      by_cases h1 : (graphErr N xs).1 = 0
      · have h2 : (graphErr N xs).2 ≠ [] := fun e => h (by rw [← h1, ← e])
        have := List.length_pos_iff.2 h2
        simp [this]
      · simp [h1]
  clear hl hW0 hB0 k0
  go_enter Tryz.func23, Tryz.ntmps23
  go_wp2_with fail
  rw [HW0.out]
  refine HDC.out.mono ?_
  rintro e w1 ⟨po, pc, rfl, _, hb1⟩
  have HB1 : Hid (Below W0.heap.size W0 w1) := hb1
  clear hb1
  obtain ⟨c0, c1, cs, _⟩ := HK.out w1 HB1.out
  generalize hE : graphErr N xs = E at *
  obtain ⟨C, ps⟩ := E
  have HE : Hid (graphErr N xs = (C, ps)) := hE
  clear hE
  have HAL : Hid (Below w1.heap.size w1 (w1.alloc (.cells #[.int .i64 C, .slice po ps.length pc] 44))) := (Below.refl _ w1).alloc (Nat.le_refl _) _
  have HBD : Hid (type_of% (bad_calls C po ps.length pc (w1.alloc (.cells #[.int .i64 C, .slice po ps.length pc] 44)))) := bad_calls C po ps.length pc _
  simp only at HTC
  have R1 : Hid (∀ wx, Below (w1.alloc (.cells #[.int .i64 C, .slice po ps.length pc] 44)).heap.size (w1.alloc (.cells #[.int .i64 C, .slice po ps.length pc] 44)) wx → Below W0.heap.size W0 wx) := fun wx h => by
    have h1 := HB1.out.trans (HAL.out.mono HB1.out.size)
    exact h1.trans (h.mono h1.size)
  rcases HTC.out with hgood | ⟨hbad, hbt⟩
  · injection hgood with hC hp
    subst hC
    subst hp
    go_wp2_with fail
    refine HBD.out.mono ?_
    rintro e w2 ⟨rfl, hb2⟩
    have R2 : Hid (Below W0.heap.size W0 w2) := R1.out w2 hb2
    clear hb2 c0 c1 cs
    obtain ⟨c0, c1, cs, hbe⟩ := HK.out w2 R2.out
    have HBE : Hid (Below w.heap.size w w2) := hbe
    rw [show ((0 : Int) != 0 || decide (0 < ([] : List (Int × Int)).length)) = false from rfl]
    clear hbe
    by_cases h1 : N ≤ most
    · by_cases h2 : (xs.length : Int) ≤ 2000
      · have hd : fewB N xs most = true := decide_eq_true ⟨HE.out, h1, by omega⟩
        have HD : Hid (type_of% hd) := hd
        clear hd
        go_wp2
        go_ret
        exact ⟨by rw [HD.out]; first | rfl | (show Ending.returned (Value.bool (decide ((xs.length : Int) ≤ 2000))) = Ending.returned (Value.bool false); rw [decide_eq_false (by omega)]), HBE.out⟩
      · have hd : fewB N xs most = false := decide_eq_false (fun h => h2 (by have := h.2.2; omega))
        have HD : Hid (type_of% hd) := hd
        clear hd
        go_wp2
        go_ret
        exact ⟨by rw [HD.out]; first | rfl | (show Ending.returned (Value.bool (decide ((xs.length : Int) ≤ 2000))) = Ending.returned (Value.bool false); rw [decide_eq_false (by omega)]), HBE.out⟩
    · have hd : fewB N xs most = false := decide_eq_false (fun h => h1 h.2.1)
      have HD : Hid (type_of% hd) := hd
      clear hd
      go_wp2
      go_ret
      exact ⟨by rw [HD.out]; first | rfl | (show Ending.returned (Value.bool (decide ((xs.length : Int) ≤ 2000))) = Ending.returned (Value.bool false); rw [decide_eq_false (by omega)]), HBE.out⟩
  · rw [hbt] at HBD
    have HBAD : Hid ((C, ps) ≠ ((0 : Int), ([] : List (Int × Int)))) := hbad
    clear hbad hbt
    go_wp2_with fail
    refine HBD.out.mono ?_
    rintro e w2 ⟨rfl, hb2⟩
    have R2 : Hid (Below W0.heap.size W0 w2) := R1.out w2 hb2
    clear hb2 c0 c1 cs
    obtain ⟨c0, c1, cs, hbe⟩ := HK.out w2 R2.out
    have HBE : Hid (Below w.heap.size w w2) := hbe
    clear hbe
    have hd : fewB N xs most = false := decide_eq_false (fun h => HBAD.out (HE.out.symm.trans h.1))
    have HD : Hid (type_of% hd) := hd
    clear hd
    go_wp2
    go_ret
    exact ⟨by rw [HD.out]; first | rfl | (show Ending.returned (Value.bool (decide ((xs.length : Int) ≤ 2000))) = Ending.returned (Value.bool false); rw [decide_eq_false (by omega)]), HBE.out⟩
end Go.Proofs.YtbkclhaonbjobaaGreatDoor
