/- the program's overlay and the reference's, side by side in memory. the law's step: what its walks lean on. viaductlaw11.step, case by case. (Printed by genop.py.) viaductlaw11.step: Put and Remove. (Printed by genoq.py.) the law OverlayPlays. viaductref04.Few. -/
import Derived.Test.YtbkclhaonbjobaaGreatQgX
import Derived.Test.YtbkclhaonbjobaaGreatQmX
import Derived.Deep.RegionHeld3
import Derived.BigRegion
import Derived.Test.YtbkclhaonbjobaaGreatQvX
import Derived.Test.YtbkclhaonbjobaaGreatDocCheck
import Derived.Test.YtbkclhaonbjobaaGreatQnX
namespace Go.Proofs.YtbkclhaonbjobaaGreat
open Go.RowKit Go.Extern Go.Sort

/-- blocks lie as they are told. -/
def Lies (PX : Nat → Option Obj) (w : World) : Prop := ∀ X o, PX X = some o → w.heap[X]? = some o
def Wider (PX PY : Nat → Option Obj) : Prop := ∀ X o, PX X = some o → PY X = some o
section
variable {PX : Nat → Option Obj} {w w' : World} {B0 pb n : Nat} {bs : List Bool} {R : Bool → Nat → Rw} {nodes arcs : Int}
theorem IsOv.lies (h : IsOv PX B0 w pb n bs R nodes arcs) : Lies PX w := fun X o hX => by
  obtain ⟨B, ab, sb, h0, hk, h2⟩ := h
  exact (hk.prot X o hX).1
/-- all that was laid since is guarded. -/
def wrapP (PX : Nat → Option Obj) (K : Nat) (w' : World) : Nat → Option Obj := fun X => if K ≤ X then w'.heap[X]? else PX X
theorem IsOv.wrap (h : IsOv PX B0 w pb n bs R nodes arcs) (hb : Below w.heap.size w w') : IsOv (wrapP PX w.heap.size w') B0 w' pb n bs R nodes arcs ∧ Wider PX (wrapP PX w.heap.size w') := by
  have hl := h.lies
  obtain ⟨B, ab, sb, h0, h1, h2⟩ := h
  have hk := h1.keep hb
  refine ⟨⟨B, ab, sb, h0, ⟨hk.box, hk.al, hk.row, hk.bl, hk.big, hk.own, hk.low, hk.two, fun X o hX => ?_, hk.apart⟩, h2⟩, fun X o hX => ?_⟩
  · unfold wrapP at hX
    split at hX
    · rename_i hKX
      refine ⟨hX, fun e => ?_, fun e => ?_, fun s e => ?_, fun s u hu e => ?_⟩
      · have := lt_of_get h1.box; omega
      · have := lt_of_get h1.al; omega
      · have := lt_of_get (h1.row s); omega
      · have := ((h1.own s u hu).lt _ e).2; omega
    · obtain ⟨p1, p2⟩ := h1.prot X o hX
      exact ⟨(hb.block _ (lt_of_get p1)).trans p1, p2⟩
  · have := lt_of_get (hl X o hX)
    unfold wrapP
    rw [if_neg (by omega)]
    exact hX
/-- a guarded block is written. -/
def updP (PX : Nat → Option Obj) (X : Nat) (o : Obj) : Nat → Option Obj := fun Y => if Y = X then some o else PX Y
theorem IsOv.write (h : IsOv PX B0 w pb n bs R nodes arcs) {X : Nat} {o o' : Obj} (hX : PX X = some o) (h0 : w'.heap[X]? = some o') (h1 : ∀ j, j ≠ X → w'.heap[j]? = w.heap[j]?) : IsOv (updP PX X o') B0 w' pb n bs R nodes arcs := by
  obtain ⟨B, ab, sb, hB, hk, h2⟩ := h
  obtain ⟨_, n1, n2, n3, n4⟩ := hk.prot X o hX
  refine ⟨B, ab, sb, hB, ⟨(h1 _ (Ne.symm n1)).trans hk.box, (h1 _ (Ne.symm n2)).trans hk.al, fun s => (h1 _ (Ne.symm (n3 s))).trans (hk.row s), hk.bl, hk.big, fun s u hu => rowX_keep (hk.own s u hu) (fun g e => h1 g (fun e2 => n4 s u hu (by rw [e, e2]))), hk.low, hk.two, fun Y oy hY => ?_, hk.apart⟩, h2⟩
  unfold updP at hY
  split at hY
  · rename_i e
    subst e
    injection hY with hY
    subst hY
    exact ⟨h0, n1, n2, n3, n4⟩
  · rename_i e
    obtain ⟨p1, p2⟩ := hk.prot Y oy hY
    exact ⟨(h1 Y e).trans p1, p2⟩
end
/-- a value's block is guarded. -/
def Held (PX : Nat → Option Obj) (v : Value) : Prop := ∀ g, v.ownBlock = some g → ∃ o, PX g = some o
/-- the program's overlay and the reference's tell the same. -/
structure Both (PX : Nat → Option Obj) (B0 : Nat) (w : World) (pb n : Nat) (bs : List Bool) (R : Bool → Nat → Rw) (zs : List A4) (av lv : Value) : Prop where
  ov : IsOv PX B0 w pb n bs R ((aliveN n bs : Nat) : Int) ((zs.length : Nat) : Int)
  tie : Tied n bs R zs
  fl : w.ownsRow 0 4 1 av n (bs.map Value.bool)
  ar : w.ownsRow 0 51 4 lv zs.length (flatA4 zs)
  hf : Held PX av
  ha : Held PX lv
section
variable {PX : Nat → Option Obj} {w w' : World} {B0 pb n : Nat} {bs : List Bool} {R : Bool → Nat → Rw} {zs : List A4} {av lv : Value}
/-- new rows, or the elder one. -/
def NewOr (K : Nat) (v v' : Value) : Prop := v' = v ∨ ∀ g, v'.ownBlock = some g → K ≤ g
end
end Go.Proofs.YtbkclhaonbjobaaGreat

namespace Go.Proofs.YtbkclhaonbjobaaGreat
open Go.RowKit Go.Extern Go.Sort

attribute [local go_sem] Oper.semAt_some

section
variable {PX : Nat → Option Obj} {w w' : World} {B0 pb n : Nat} {bs : List Bool} {R : Bool → Nat → Rw} {zs : List A4} {av lv : Value}
/-- what a step leaves. -/
def StepPost (PX : Nat → Option Obj) (B0 : Nat) (w : World) (pb n : Nat) (zs : List A4) (av lv : Value) (e : Ending) (w' : World) : Prop := ∃ PX' bs' R' zs' av' lv', e = .returned (.tuple #[.agg #[av', lv'], .bool true]) ∧ Both PX' B0 w' pb n bs' R' zs' av' lv' ∧ Wider PX PX' ∧ zs'.length ≤ zs.length + 1 ∧ Below B0 w w' ∧ NewOr w.heap.size av av' ∧ NewOr w.heap.size lv lv'
/-- the boxes of a step. -/
abbrev opC (a : Op5) : Array Value := #[.int .u8 a.1, .int .i64 a.2.1, .int .i64 a.2.2.1, .int .u64 a.2.2.2.1, .int .i64 a.2.2.2.2]
structure Boxes (wx : World) (p : Nat) (av lv : Value) (a : Op5) : Prop where
  o : wx.heap[p]? = some (.cells #[av, lv] 44 (0, 0))
  x : wx.heap[p + 1]? = some (.cells (opC a) 96 (0, 0))
  r : wx.heap[p + 1 + 1]? = some (.cells #[.slice none 0 0, .slice none 0 0] 44 (0, 0))
end
end Go.Proofs.YtbkclhaonbjobaaGreat

namespace Go.Proofs.YtbkclhaonbjobaaGreat
open Go.RowKit Go.Extern Go.Sort

attribute [local go_sem] Oper.semAt_some

section
variable {PX : Nat → Option Obj} {w : World} {B0 pb n : Nat} {bs : List Bool} {R : Bool → Nat → Rw} {zs : List A4} {fo ao : Option Addr} {fc ac : Nat}


end
end Go.Proofs.YtbkclhaonbjobaaGreat

namespace Go.Proofs.YtbkclhaonbjobaaGreat
open Go.RowKit Go.Extern Go.Sort

attribute [local go_sem] Oper.semAt_some

section
variable {PX : Nat → Option Obj} {w : World} {B0 pb n : Nat} {bs : List Bool} {R : Bool → Nat → Rw} {zs : List A4} {fo ao : Option Addr} {fc ac : Nat}
end
end Go.Proofs.YtbkclhaonbjobaaGreat

namespace Go.Proofs.YtbkclhaonbjobaaGreat
open Go.RowKit Go.Extern Go.Sort

attribute [local go_sem] Oper.semAt_some

section
variable {PX : Nat → Option Obj} {w : World} {B0 pb n : Nat} {bs : List Bool} {R : Bool → Nat → Rw} {zs : List A4}
end
end Go.Proofs.YtbkclhaonbjobaaGreat

namespace Go.Proofs.YtbkclhaonbjobaaGreat
open Go.RowKit Go.Extern

attribute [local go_sem] Oper.semAt_some

/-- is a graph right, and has it few nodes and arcs? -/
def fewB (N : Int) (xs : List (Int × Int × Int)) (most : Int) : Bool := decide (graphErr N xs = (0, []) ∧ N ≤ most ∧ xs.length ≤ 2000)

set_option maxRecDepth 100000 in
set_option maxHeartbeats 4000000 in
theorem few_calls (N : Int) (ao : Option Addr) (cap : Nat) (xs : List (Int × Int × Int)) (most : Int) (w : World) (hl : HasArcs w (.slice ao xs.length cap) xs) (hm : xs.length ≤ maxLen) :
    Calls Tryz.prog 6 #[.agg #[.int .i64 N, .slice ao xs.length cap], .int .i64 most] w fun e w' => e = .returned (.bool (fewB N xs most)) ∧ Below w.heap.size w w' := by
  obtain ⟨W0, hW0⟩ : ∃ W0, w.alloc (.cells #[.int .i64 N, .slice ao xs.length cap] 24) = W0 := ⟨_, rfl⟩
  have HW0 : Hid (w.alloc (.cells #[.int .i64 N, .slice ao xs.length cap] 24) = W0) := hW0
  have hB0 : Below w.heap.size w W0 := by rw [← hW0]; exact (Below.refl _ w).alloc (Nat.le_refl _) _
  have k0 : W0.heap[w.heap.size]? = some (.cells #[.int .i64 N, .slice ao xs.length cap] 24) := by rw [← hW0]; exact heap_new _ _
  have HDC : Hid (type_of% (docCheck_calls N ao cap xs W0 (hl.keep hB0) hm)) := docCheck_calls N ao cap xs W0 (hl.keep hB0) hm
  have HK : Hid (∀ wx, Below W0.heap.size W0 wx → wx.cell? ⟨w.heap.size, 0, none⟩ = some (.int .i64 N) ∧ wx.cell? ⟨w.heap.size, 1, none⟩ = some (.slice ao xs.length cap) ∧ w.heap.size < wx.heap.size ∧ Below w.heap.size w wx) := fun wx hx => by
    have g := (hx.block _ (lt_of_get k0)).trans k0
    exact ⟨(cell_two g).1, (cell_two g).2.1, lt_of_get g, hB0.trans (hx.mono hB0.size)⟩
  have HTC : Hid (graphErr N xs = (0, []) ∨ (graphErr N xs ≠ (0, []) ∧ ((graphErr N xs).1 != 0 || decide (0 < (graphErr N xs).2.length)) = true)) := by
    by_cases h : graphErr N xs = (0, [])
    · exact Or.inl h
    · refine Or.inr ⟨h, ?_⟩
      by_cases h1 : (graphErr N xs).1 = 0
      · have h2 : (graphErr N xs).2 ≠ [] := fun e => h (by rw [← h1, ← e])
        have := List.length_pos_iff.2 h2
        simp [this]
      · simp [h1]
  clear hl hW0 hB0 k0
  go_enter Tryz.func6, Tryz.ntmps6
  go_wp2_with fail
  rw [HW0.out]
  refine HDC.out.mono ?_
  rintro e w1 ⟨po, pc, rfl, _, hb1⟩
  have HB1 : Hid (Below W0.heap.size W0 w1) := hb1
  clear hb1
  obtain ⟨c0, c1, cs, _⟩ := HK.out w1 HB1.out
  generalize hE : graphErr N xs = E at *
  obtain ⟨C, ps⟩ := E
  have HE : Hid (graphErr N xs = (C, ps)) := hE
  clear hE
  have HAL : Hid (Below w1.heap.size w1 (w1.alloc (.cells #[.int .i64 C, .slice po ps.length pc] 76))) := (Below.refl _ w1).alloc (Nat.le_refl _) _
  have HBD : Hid (type_of% (bad_calls C po ps.length pc (w1.alloc (.cells #[.int .i64 C, .slice po ps.length pc] 76)))) := bad_calls C po ps.length pc _
  simp only at HTC
  have R1 : Hid (∀ wx, Below (w1.alloc (.cells #[.int .i64 C, .slice po ps.length pc] 76)).heap.size (w1.alloc (.cells #[.int .i64 C, .slice po ps.length pc] 76)) wx → Below W0.heap.size W0 wx) := fun wx h => by
    have h1 := HB1.out.trans (HAL.out.mono HB1.out.size)
    exact h1.trans (h.mono h1.size)
  rcases HTC.out with hgood | ⟨hbad, hbt⟩
  · injection hgood with hC hp
    subst hC
    subst hp
    go_wp2_with fail
    refine HBD.out.mono ?_
    rintro e w2 ⟨rfl, hb2⟩
    have R2 : Hid (Below W0.heap.size W0 w2) := R1.out w2 hb2
    clear hb2 c0 c1 cs
    obtain ⟨c0, c1, cs, hbe⟩ := HK.out w2 R2.out
    have HBE : Hid (Below w.heap.size w w2) := hbe
    rw [show ((0 : Int) != 0 || decide (0 < ([] : List (Int × Int)).length)) = false from rfl]
    clear hbe
    by_cases h1 : N ≤ most
    · by_cases h2 : (xs.length : Int) ≤ 2000
      · have hd : fewB N xs most = true := decide_eq_true ⟨HE.out, h1, by omega⟩
        have HD : Hid (type_of% hd) := hd
        clear hd
        go_wp2
        go_ret
        exact ⟨by rw [HD.out]; first | rfl | (show Ending.returned (Value.bool (decide ((xs.length : Int) ≤ 2000))) = Ending.returned (Value.bool false); rw [decide_eq_false (by omega)]), HBE.out⟩
      · have hd : fewB N xs most = false := decide_eq_false (fun h => h2 (by have := h.2.2; omega))
        have HD : Hid (type_of% hd) := hd
        clear hd
        go_wp2
        go_ret
        exact ⟨by rw [HD.out]; first | rfl | (show Ending.returned (Value.bool (decide ((xs.length : Int) ≤ 2000))) = Ending.returned (Value.bool false); rw [decide_eq_false (by omega)]), HBE.out⟩
    · have hd : fewB N xs most = false := decide_eq_false (fun h => h1 h.2.1)
      have HD : Hid (type_of% hd) := hd
      clear hd
      go_wp2
      go_ret
      exact ⟨by rw [HD.out]; first | rfl | (show Ending.returned (Value.bool (decide ((xs.length : Int) ≤ 2000))) = Ending.returned (Value.bool false); rw [decide_eq_false (by omega)]), HBE.out⟩
  · rw [hbt] at HBD
    have HBAD : Hid ((C, ps) ≠ ((0 : Int), ([] : List (Int × Int)))) := hbad
    clear hbad hbt
    go_wp2_with fail
    refine HBD.out.mono ?_
    rintro e w2 ⟨rfl, hb2⟩
    have R2 : Hid (Below W0.heap.size W0 w2) := R1.out w2 hb2
    clear hb2 c0 c1 cs
    obtain ⟨c0, c1, cs, hbe⟩ := HK.out w2 R2.out
    have HBE : Hid (Below w.heap.size w w2) := hbe
    clear hbe
    have hd : fewB N xs most = false := decide_eq_false (fun h => HBAD.out (HE.out.symm.trans h.1))
    have HD : Hid (type_of% hd) := hd
    clear hd
    go_wp2
    go_ret
    exact ⟨by rw [HD.out]; first | rfl | (show Ending.returned (Value.bool (decide ((xs.length : Int) ≤ 2000))) = Ending.returned (Value.bool false); rw [decide_eq_false (by omega)]), HBE.out⟩
end Go.Proofs.YtbkclhaonbjobaaGreat
