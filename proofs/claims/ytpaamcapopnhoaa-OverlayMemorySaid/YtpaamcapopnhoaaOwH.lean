/- OverlayKeeps: what its walk leans on. -/
import Derived.Test.YtpaamcapopnhoaaOwG
import Derived.Test.YtpaamcapopnhoaaWjF
namespace Go.Proofs.Ytpaamcapopnhoaa
open Go.RowKit Go.Extern Go.Sort

/-- one block is guarded. -/
def P1 (X : Nat) (o : Obj) : Nat → Option Obj := fun Y => if Y = X then some o else none
section
variable {PX : Nat → Option Obj} {w w' : World} {B0 pb n : Nat} {bs : List Bool} {R : Bool → Nat → Rw} {nodes arcs : Int}
theorem IsOv.guard (h : IsOv PX B0 w pb n bs R nodes arcs) (o : Obj) : IsOv (P1 w.heap.size o) B0 (w.alloc o) pb n bs R nodes arcs := by
  obtain ⟨B, ab, sb, h0, h1, h2⟩ := h
  have hk := h1.keep ((Below.refl _ w).alloc (Nat.le_refl _) o)
  refine ⟨B, ab, sb, h0, ⟨hk.box, hk.al, hk.row, hk.bl, hk.big, hk.own, hk.low, hk.two, fun X ox hX => ?_, hk.apart⟩, h2⟩
  unfold P1 at hX
  split at hX
  · rename_i e
    cases hX
    subst e
    refine ⟨heap_new w o, fun e => ?_, fun e => ?_, fun s e => ?_, fun s u hu e => ?_⟩
    · have := lt_of_get h1.box; omega
    · have := lt_of_get h1.al; omega
    · have := lt_of_get (h1.row s); omega
    · have := ((h1.own s u hu).lt _ e).2; omega
  · cases hX
theorem IsOv.drop (h : IsOv PX B0 w pb n bs R nodes arcs) : IsOv noP B0 w pb n bs R nodes arcs := by
  obtain ⟨B, ab, sb, h0, hk, h2⟩ := h
  exact ⟨B, ab, sb, h0, ⟨hk.box, hk.al, hk.row, hk.bl, hk.big, hk.own, hk.low, hk.two, fun X o hX => (by cases hX), hk.apart⟩, h2⟩
theorem IsOv.seen {X : Nat} {o : Obj} (h : IsOv (P1 X o) B0 w pb n bs R nodes arcs) : w.heap[X]? = some o := by
  obtain ⟨B, ab, sb, h0, hk, h2⟩ := h
  exact (hk.prot X o (by simp [P1])).1
end
/-- a call of the law's list. -/
abbrev Op5 := Int × Int × Int × Int × Int
def HasOp5 (w : World) (lv : Value) (xs : List Op5) : Prop :=
  ∃ ao cap, lv = .slice ao xs.length cap ∧ ∀ j a, xs[j]? = some a → ∃ b off, ao = some ⟨b, off, none⟩ ∧ b < w.heap.size ∧ w.cell? ⟨b, off + j * 5, none⟩ = some (.int .u8 a.1) ∧ w.cell? ⟨b, off + j * 5 + 1, none⟩ = some (.int .i64 a.2.1) ∧ w.cell? ⟨b, off + j * 5 + 2, none⟩ = some (.int .i64 a.2.2.1) ∧ w.cell? ⟨b, off + j * 5 + 3, none⟩ = some (.int .u64 a.2.2.2.1) ∧ w.cell? ⟨b, off + j * 5 + 4, none⟩ = some (.int .i64 a.2.2.2.2)
theorem HasOp5.keep {w w' : World} {lv : Value} {xs : List Op5} (h : HasOp5 w lv xs) (hb : Below w.heap.size w w') : HasOp5 w' lv xs := by
  obtain ⟨ao, cap, e, hc⟩ := h
  refine ⟨ao, cap, e, fun j a hj => ?_⟩
  obtain ⟨b, off, e1, hl, h0, h1, h2, h3, h4⟩ := hc j a hj
  exact ⟨b, off, e1, Nat.lt_of_lt_of_le hl hb.size, (hb.cell (p := ⟨b, _, none⟩) hl).trans h0, (hb.cell (p := ⟨b, _, none⟩) hl).trans h1, (hb.cell (p := ⟨b, _, none⟩) hl).trans h2, (hb.cell (p := ⟨b, _, none⟩) hl).trans h3, (hb.cell (p := ⟨b, _, none⟩) hl).trans h4⟩
theorem HasOp5.at {w : World} {ao : Option Addr} {n cap : Nat} {xs : List Op5} (h : HasOp5 w (.slice ao n cap) xs) {k : Nat} {a : Op5} (hp : xs[k]? = some a) :
    ∃ b off, ao = some ⟨b, off, none⟩ ∧ b < w.heap.size ∧ w.cell? ⟨b, off + k * 5, none⟩ = some (.int .u8 a.1) ∧ w.cell? ⟨b, off + k * 5 + 1, none⟩ = some (.int .i64 a.2.1) ∧ w.cell? ⟨b, off + k * 5 + 2, none⟩ = some (.int .i64 a.2.2.1) ∧ w.cell? ⟨b, off + k * 5 + 3, none⟩ = some (.int .u64 a.2.2.2.1) ∧ w.cell? ⟨b, off + k * 5 + 4, none⟩ = some (.int .i64 a.2.2.2.2) := by
  obtain ⟨ao', cap', e, hc⟩ := h
  injection e with e1 e2 e3
  subst e1
  exact hc k a hp
theorem low_mem {l : List H3} (hr : RiseH l) {a : H3} (ha : a ∈ l) : hasH l a.1 = true ∧ l[lowH l a.1]? = some a := by
  obtain ⟨i, hi⟩ := List.getElem?_of_mem ha
  have hil := (List.getElem?_eq_some_iff.1 hi).1
  have e : lowH l a.1 = i := countP_at _ l i (by omega) (fun t b ht hb => decide_eq_true (by have := hr.lt hb hi ht; omega)) (fun t b ht hb => decide_eq_false (by
    rcases Nat.lt_or_ge i t with h | h
    · have := hr.lt hi hb h
      omega
    · obtain rfl : t = i := by omega
      rw [hi] at hb
      cases hb
      omega))
  rw [e]
  exact ⟨hasH_mem.2 ⟨a, ha, rfl⟩, hi⟩
/-- what is put in is there. -/
theorem weight_put {n : Nat} {bs : List Bool} {R : Bool → Nat → Rw} (h : OvInv n bs R) {a b : Nat} (han : a < n) (hbn : b < n) (la : liv bs a = true) (lb : liv bs b = true) (wt via : Int) (v1 v2 : Value) : weightM n bs (putRows R a b wt via v1 v2) (a : Int) (b : Int) = some wt := by
  unfold weightM
  rw [aliveB_iff.2 ⟨a, rfl, han, la⟩, aliveB_iff.2 ⟨b, rfl, hbn, lb⟩, Int.toNat_natCast]
  have e : (putRows R a b wt via v1 v2 false a).2.1 = setH (R false a).2.1 ((b : Int), wt, via) := by
    unfold putRows
    rw [updS_far _ true false _ _ (by simp), updS_at]
  rw [e]
  have hm := low_mem (setH_rise (a := ((b : Int), wt, via)) (h.ok.rise false a han)) ((setH_iff (h.ok.rise false a han)).2 (Or.inl rfl))
  simp only at hm
  rw [hm.1, hm.2]
  rfl
end Go.Proofs.Ytpaamcapopnhoaa
