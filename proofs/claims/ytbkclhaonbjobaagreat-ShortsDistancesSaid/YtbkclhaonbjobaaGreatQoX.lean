/- the reference's overlay beside the program's: DocFind on it; weights. a call of the script, on the program's overlay: Put, Remove, whatever they are handed. a round of the script: the state between the program's call and the reference's; how it closes. what the reference's Put answers beside the program's. viaductlaw12.laid, where the graph is right and small: both overlays behind a script. laid, where the graph is wrong or large, or the script long. SameRow at rows told by their cells; what two searches answer is the same row. viaductref02.TwinInts. (The texts of csr, in this namespace.) Goals answered one by one; the node itself is at nought. A bound on how far a search goes tells nothing of what lies nearer. -/
import Derived.Test.YtbkclhaonbjobaaGreatQlX
import Derived.Test.YtbkclhaonbjobaaGreatQsX
import Derived.Test.YtbkclhaonbjobaaGreatQvX
import Derived.BigRegion
import Derived.BigQuiet
namespace Go.Proofs.YtbkclhaonbjobaaGreat.Wt
open Go Go.RowKit Go.Extern

attribute [local go_sem] Oper.semAt_some

/-- no arc weighs more than what counts. -/
def ZB (zs : List A4) : Prop := ∀ a ∈ zs, 0 ≤ a.2.2.1 ∧ a.2.2.1 ≤ 140737488355328
theorem ZB.put {zs : List A4} (h : ZB zs) {a : A4} (ha : 0 ≤ a.2.2.1 ∧ a.2.2.1 ≤ 140737488355328) : ZB (putZ zs a) := fun b hb => by
  rcases putZ_mem.1 hb with ⟨h1, _⟩ | rfl
  · exact h b h1
  · exact ha
theorem outM_row {n : Nat} {bs : List Bool} {R : Bool → Nat → Rw} (v : Nat) : outM n bs R false (v : Int) = rowW n bs R v := by
  unfold outM rowW
  rfl
theorem rowsW_tied {n : Nat} {bs : List Bool} {R : Bool → Nat → Rw} {zs : List A4} (h : Tied n bs R zs) (hi : OvInv n bs R) (hb : ZB zs) : RowsW n (rowW n bs R) := by
  refine ⟨fun v hv => ?_, fun v hv a ha => ?_⟩
  · unfold rowW
    split
    · exact (hi.ok.rise false v hv).filter _
    · exact List.Pairwise.nil
  · have h1 := (rowW_mem ha).1
    have h2 := hi.ok.node false v hv a h1
    refine ⟨h2.1, h2.2, hi.self false v hv a h1, ?_⟩
    rw [← outM_row, ← h.outM hi] at ha
    have h3 := sideA_mem_false.1 ((sortA_mem _).1 ha)
    exact hb _ h3
theorem ovF_tied {PX : Nat → Option Obj} {w : World} {B0 pb n : Nat} {bs : List Bool} {R : Bool → Nat → Rw} {nodes arcs : Int} (h : IsOv PX B0 w pb n bs R nodes arcs) (hr : RowsW n (rowW n bs R)) : OvF w ⟨pb, 0, none⟩ n (aliveB n bs) (rowW n bs R) := by
  refine ⟨fun wx hb x => (h.keep hb).alive x, fun wx hb v hv => ?_, fun x hx => ?_, fun v hv => rise_few (hr.rise v hv) fun a ha => ⟨(hr.ends v hv a ha).1, (hr.ends v hv a ha).2.1⟩, fun v hv a ha => by have := hr.ends v hv a ha; exact ⟨this.1, this.2.1, this.2.2.2⟩⟩
  · refine ((h.keep hb).out (v : Int)).mono ?_
    rintro e w' ⟨v', rfl, h1, h2, hb2⟩
    rw [Int.toNat_natCast] at h2
    unfold rowW
    cases ha : aliveB n bs (v : Int) with
    | false =>
      rw [h1 ha, if_neg (by simp)]
      exact ⟨none, 0, rfl, World.ownsRow_nil _ _ _ _, hb2⟩
    | true =>
      have h3 := h2 ha
      rw [if_pos rfl]
      obtain ⟨so, sc, rfl⟩ := rowH_slice h3
      exact ⟨so, sc, rfl, h3, hb2⟩
  · obtain ⟨u, h1, h2, _⟩ := aliveB_iff.1 hx
    exact ⟨u, h1, h2⟩
section
variable {PX : Nat → Option Obj} {w : World} {B0 pb n : Nat} {bs : List Bool} {R : Bool → Nat → Rw} {zs : List A4}
end
end Go.Proofs.YtbkclhaonbjobaaGreat.Wt

namespace Go.Proofs.YtbkclhaonbjobaaGreat.Wt
open Go Go.RowKit Go.Extern

attribute [local go_sem] Oper.semAt_some

/-- what a Put makes of the arcs. -/
def PutZ (n : Nat) (bs : List Bool) (R : Bool → Nat → Rw) (zs : List A4) (x y wt via : Int) (zs' : List A4) : Prop :=
  (putErr n bs x y wt via ≠ 0 ∧ zs' = zs) ∨ (putErr n bs x y wt via = 0 ∧ (∃ k, weightM n bs R x y = some k ∧ k ≤ wt) ∧ zs' = zs) ∨ (putErr n bs x y wt via = 0 ∧ (∀ k, weightM n bs R x y = some k → wt < k) ∧ zs' = putZ zs (x, y, wt, via))
section
variable {PX : Nat → Option Obj} {w : World} {B0 pb n : Nat} {bs : List Bool} {R : Bool → Nat → Rw} {zs : List A4} {av lv : Value}
end
end Go.Proofs.YtbkclhaonbjobaaGreat.Wt

namespace Go.Proofs.YtbkclhaonbjobaaGreat.Wt
open Go Go.RowKit Go.Extern

attribute [local go_sem] Oper.semAt_some

/-- the program's overlay has gone on, the reference's rows lie as they did. -/
structure Mid (PX : Nat → Option Obj) (B0 : Nat) (w : World) (pb n : Nat) (bs' : List Bool) (R' : Bool → Nat → Rw) (zs' : List A4) (bs : List Bool) (zs : List A4) (av lv : Value) : Prop where
  ov : IsOv PX B0 w pb n bs' R' ((aliveN n bs' : Nat) : Int) ((zs'.length : Nat) : Int)
  tie : Tied n bs' R' zs'
  bl : bs.length = n
  fl : w.ownsRow 0 4 1 av n (bs.map Value.bool)
  ar : w.ownsRow 0 51 4 lv zs.length (flatA4 zs)
  hf : Held PX av
  ha : Held PX lv
section
variable {PX : Nat → Option Obj} {w w' wy : World} {B0 pb n : Nat} {bs bs' : List Bool} {R R' : Bool → Nat → Rw} {zs zs' : List A4} {av lv av' lv' : Value}
end
/-- what is guarded lies above a base. -/
def LowP (B0 : Nat) (PX : Nat → Option Obj) : Prop := ∀ X o, PX X = some o → B0 ≤ X
/-- what holds between two rounds. -/
def LaidS (B0 pb n X9 : Nat) (w wr : World) (m : Nat) : Prop := ∃ PX bs R zs fo fc ao ac, Both PX B0 wr pb n bs R zs (.slice fo n fc) (.slice ao zs.length ac) ∧ PX X9 = some (.cells #[.slice fo n fc, .slice ao zs.length ac] 44 (0, 0)) ∧ ((Value.slice fo n fc).ownBlock ≠ some X9 ∧ (Value.slice ao zs.length ac).ownBlock ≠ some X9) ∧ (ZB zs ∧ zs.length ≤ m) ∧ (B0 ≤ X9 ∧ LowP B0 PX) ∧ Below B0 w wr
end Go.Proofs.YtbkclhaonbjobaaGreat.Wt

namespace Go.Proofs.YtbkclhaonbjobaaGreat.Wt
open Go Go.RowKit Go.Extern

attribute [local go_sem] Oper.semAt_some

section
variable {n : Nat} {bs : List Bool} {R : Bool → Nat → Rw} {zs zs' : List A4}
end
end Go.Proofs.YtbkclhaonbjobaaGreat.Wt

namespace Go.Proofs.YtbkclhaonbjobaaGreat.Wt
open Go Go.RowKit Go.Extern

attribute [local go_sem] Oper.semAt_some

/-- what laid answers. -/
def LaidA (n : Nat) (w : World) (e : Ending) (w' : World) : Prop := ∃ pb PX bs R zs fo fc ao ac, e = .returned (.tuple #[.pointer (some ⟨pb, 0, none⟩), .agg #[.slice fo n fc, .slice ao zs.length ac], .bool true]) ∧ Both PX w.heap.size w' pb n bs R zs (.slice fo n fc) (.slice ao zs.length ac) ∧ (ZB zs ∧ zs.length ≤ 200000) ∧ Below w.heap.size w w'

end Go.Proofs.YtbkclhaonbjobaaGreat.Wt

namespace Go.Proofs.YtbkclhaonbjobaaGreat.Wt
open Go Go.RowKit Go.Extern

attribute [local go_sem] Oper.semAt_some

end Go.Proofs.YtbkclhaonbjobaaGreat.Wt

namespace Go.Proofs.YtbkclhaonbjobaaGreat.Wt
open Go Go.RowKit Go.Extern

attribute [local go_sem] Oper.semAt_some

/-- numbers, told by their cells. -/
def UCell (w : World) (ao : Option Addr) (D : List Int) : Prop := ∀ (k : Nat) (x : Int), D[k]? = some x → ∃ b off, ao = some ⟨b, off, none⟩ ∧ b < w.heap.size ∧ w.cell? ⟨b, off + k, none⟩ = some (.int .u64 x)
end Go.Proofs.YtbkclhaonbjobaaGreat.Wt

namespace Go.Proofs.YtbkclhaonbjobaaGreat.Wt
open Go Go.RowKit Go.Extern

attribute [local go_sem] Oper.semAt_some

def iv (l : List Int) : List Value := l.map (Value.int .i64)
theorem infoJ8 : (Tryz.prog.info? 3).map (fun i => (i.zero, i.size, i.bytes)) = some (some (.int .i64 0), 1, 8) := by kernel_rfl
end Go.Proofs.YtbkclhaonbjobaaGreat.Wt

namespace Go.Proofs.YtbkclhaonbjobaaGreat.Wt
open Go Go.RowKit Go.Extern

/-- what is answered of one goal. -/
def goalF (n : Nat) (zs : List (Int × Int × Int)) (u : Nat) (hops se mo g : Int) : Int := farOr (runW n zs u hops se mo).vs[g.toNat]?
theorem findL_is (n : Nat) (zs : List (Int × Int × Int)) (u : Nat) (hops se mo : Int) (gs : List Int) : findL n zs u hops se mo gs = gs.map (goalF n zs u hops se mo) := rfl
theorem goalsErr_all {al : Int → Bool} : ∀ {gs : List Int} {i : Nat}, (∀ g ∈ gs, al g = true) → goalsErr al gs i = (0, [])
  | [], i, _ => rfl
  | g :: r, i, h => by
    unfold goalsErr
    rw [if_pos (h g (by simp))]
    exact goalsErr_all fun x hx => h x (by simp [hx])
theorem findErr_iff {al : Int → Bool} {u : Int} {gs : List Int} : findErr al u gs = (0, []) ↔ al u = true ∧ ∀ g ∈ gs, al g = true := by
  unfold findErr
  constructor
  · intro h
    split at h
    · rename_i hu
      exact ⟨hu, goalsErr_ok h⟩
    · simp at h
  · rintro ⟨hu, h⟩
    rw [if_pos hu]
    exact goalsErr_all h
end Go.Proofs.YtbkclhaonbjobaaGreat.Wt

namespace Go.Proofs.YtbkclhaonbjobaaGreat.Wt
open Go.RowKit

section
variable {n : Nat} {zs : List (Int × Int × Int)} {hb mo mo1 mo2 se : Int} {S0 S1 S2 S : FS}
/-- later only greater labels come. -/
structure Late (n : Nat) (mo : Int) (S1 S : FS) : Prop where
  opn : ∀ (v : Nat) (k : Int), v < n → S.f (v : Int) = some k → mo < k
  lab : ∀ (v : Nat) (d : Int), d ≤ mo → (S.vs[v]? = some (some d) ↔ S1.vs[v]? = some (some d))
end
end Go.Proofs.YtbkclhaonbjobaaGreat.Wt
