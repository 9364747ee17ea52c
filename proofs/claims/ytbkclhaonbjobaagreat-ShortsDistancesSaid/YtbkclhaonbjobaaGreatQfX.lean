/- the overlay law's awake. OverlayKeeps: what its walk leans on. how many arcs there are: mathematics. an overlay whose numbers tell what is there. OverlaySides: what stands on both sides. viaductref11's lists of halves: put. viaductref11's Out and In. the reference's arcs in memory. viaductref11.New. OverlayMemory: what its walk leans on. OverlayPlays: the reference's list of arcs against the overlay's rows. -/
import Derived.Test.YtbkclhaonbjobaaGreatQeX
import Derived.Deep.QuietTactic
import Derived.BigQuiet
import Derived.Deep.Cut
namespace Go.Proofs.YtbkclhaonbjobaaGreat
open Go.RowKit Go.Extern Go.Sort

attribute [local go_sem] Oper.semAt_some

def xsO : List (Int × Int × Int) := [(0, 1, 3), (1, 2, 1)]
/-- the flags behind the law's first Remove. -/
def bsO : List Bool := (List.replicate 3 true).set 1 false
end Go.Proofs.YtbkclhaonbjobaaGreat

namespace Go.Proofs.YtbkclhaonbjobaaGreat
open Go.RowKit Go.Extern Go.Sort

/-- one block is guarded. -/
def P1 (X : Nat) (o : Obj) : Nat → Option Obj := fun Y => if Y = X then some o else none
section
variable {PX : Nat → Option Obj} {w w' : World} {B0 pb n : Nat} {bs : List Bool} {R : Bool → Nat → Rw} {nodes arcs : Int}
theorem IsOv.guard (h : IsOv PX B0 w pb n bs R nodes arcs) (o : Obj) : IsOv (P1 w.heap.size o) B0 (w.alloc o) pb n bs R nodes arcs := by
  obtain ⟨B, ab, sb, h0, h1, h2⟩ := h
  have hk := h1.keep ((Below.refl _ w).alloc (Nat.le_refl _) o)
  refine ⟨B, ab, sb, h0, ⟨hk.box, hk.al, hk.row, hk.bl, hk.big, hk.own, hk.low, hk.two, fun X ox hX => ?_, hk.apart⟩, h2⟩
  unfold P1 at hX
  split at hX
  · rename_i e
    cases hX
    subst e
    refine ⟨heap_new w o, fun e => ?_, fun e => ?_, fun s e => ?_, fun s u hu e => ?_⟩
    · have := lt_of_get h1.box; omega
    · have := lt_of_get h1.al; omega
    · have := lt_of_get (h1.row s); omega
    · have := ((h1.own s u hu).lt _ e).2; omega
  · cases hX
theorem IsOv.seen {X : Nat} {o : Obj} (h : IsOv (P1 X o) B0 w pb n bs R nodes arcs) : w.heap[X]? = some o := by
  obtain ⟨B, ab, sb, h0, hk, h2⟩ := h
  exact (hk.prot X o (by simp [P1])).1
end
/-- a call of the law's list. -/
abbrev Op5 := Int × Int × Int × Int × Int
def HasOp5 (w : World) (lv : Value) (xs : List Op5) : Prop :=
  ∃ ao cap, lv = .slice ao xs.length cap ∧ ∀ j a, xs[j]? = some a → ∃ b off, ao = some ⟨b, off, none⟩ ∧ b < w.heap.size ∧ w.cell? ⟨b, off + j * 5, none⟩ = some (.int .u8 a.1) ∧ w.cell? ⟨b, off + j * 5 + 1, none⟩ = some (.int .i64 a.2.1) ∧ w.cell? ⟨b, off + j * 5 + 2, none⟩ = some (.int .i64 a.2.2.1) ∧ w.cell? ⟨b, off + j * 5 + 3, none⟩ = some (.int .u64 a.2.2.2.1) ∧ w.cell? ⟨b, off + j * 5 + 4, none⟩ = some (.int .i64 a.2.2.2.2)
theorem low_mem {l : List H3} (hr : RiseH l) {a : H3} (ha : a ∈ l) : hasH l a.1 = true ∧ l[lowH l a.1]? = some a := by
  obtain ⟨i, hi⟩ := List.getElem?_of_mem ha
  have hil := (List.getElem?_eq_some_iff.1 hi).1
  have e : lowH l a.1 = i := countP_at _ l i (by omega) (fun t b ht hb => decide_eq_true (by have := hr.lt hb hi ht; omega)) (fun t b ht hb => decide_eq_false (by
    rcases Nat.lt_or_ge i t with h | h
    · have := hr.lt hi hb h
      omega
    · obtain rfl : t = i := by omega
      rw [hi] at hb
      cases hb
      omega))
  rw [e]
  exact ⟨hasH_mem.2 ⟨a, ha, rfl⟩, hi⟩
end Go.Proofs.YtbkclhaonbjobaaGreat

namespace Go.Proofs.YtbkclhaonbjobaaGreat
open Go.RowKit Go.Extern Go.Sort

/-- a sum over the nodes. -/
def sumN : Nat → (Nat → Nat) → Nat
  | 0, _ => 0
  | n + 1, f => sumN n f + f n
theorem sumN_congr {n : Nat} {f g : Nat → Nat} (h : ∀ i, i < n → f i = g i) : sumN n f = sumN n g := by
  induction n with
  | zero => rfl
  | succ n ih => simp only [sumN]; rw [ih (fun i hi => h i (by omega)), h n (by omega)]
theorem sumN_add (n : Nat) (f g : Nat → Nat) : sumN n (fun i => f i + g i) = sumN n f + sumN n g := by
  induction n with
  | zero => rfl
  | succ n ih => simp only [sumN]; rw [ih]; omega
theorem sumN_zero (n : Nat) : sumN n (fun _ => 0) = 0 := by
  induction n with
  | zero => rfl
  | succ n ih => simp only [sumN]; rw [ih]
theorem sumN_upd {n u : Nat} (hu : u < n) (f : Nat → Nat) (c : Nat) : sumN n (fun i => if i = u then c else f i) + f u = sumN n f + c := by
  induction n with
  | zero => omega
  | succ n ih =>
    simp only [sumN]
    by_cases e : n = u
    · subst e
      rw [if_pos rfl, sumN_congr (g := f) (fun i hi => if_neg (by omega))]
      omega
    · rw [if_neg e]
      have := ih (by omega)
      omega
theorem sumN_has {n : Nat} : ∀ {L : List H3}, RiseH L → (∀ a ∈ L, 0 ≤ a.1 ∧ a.1 < (n : Int)) → sumN n (fun v => if hasH L (v : Int) then 1 else 0) = L.length
  | [], _, _ => sumN_zero n
  | a :: r, hr, h0 => by
    obtain ⟨h1, h2⟩ := List.pairwise_cons.1 hr
    have ih := sumN_has (n := n) h2 (fun b hb => h0 b (by simp [hb]))
    obtain ⟨m, hm⟩ : ∃ m : Nat, a.1 = (m : Int) := ⟨a.1.toNat, by have := (h0 a (by simp)).1; omega⟩
    have hmn : m < n := by have := (h0 a (by simp)).2; omega
    have hno : hasH r (m : Int) = false := by
      unfold hasH
      rw [List.any_eq_false]
      intro b hb
      have := h1 b hb
      simp
      omega
    have e : sumN n (fun v => if hasH (a :: r) (v : Int) then 1 else 0) = sumN n (fun v => if v = m then 1 else (if hasH r (v : Int) then 1 else 0)) := sumN_congr (fun v _ => by
      by_cases ev : v = m
      · subst ev
        rw [if_pos rfl, if_pos (by unfold hasH; simp [hm])]
      · rw [if_neg ev]
        have : hasH (a :: r) (v : Int) = hasH r (v : Int) := by unfold hasH; simp [hm]; intro h; omega
        rw [this])
    have h3 := sumN_upd hmn (fun v => if hasH r (v : Int) then 1 else 0) 1
    simp only [hno] at h3
    rw [e, List.length_cons, ← ih]
    simpa using h3
/-- how many arcs a graph of rows has. -/
def arcSum (n : Nat) (bs : List Bool) (R : Bool → Nat → Rw) : Nat := sumN n (fun u => (livH bs (R false u).2.1).length)
theorem arcSum_put {n : Nat} {bs : List Bool} {R : Bool → Nat → Rw} (h : OvInv n bs R) {a b : Nat} (han : a < n) (hbn : b < n) (la : liv bs a = true) (lb : liv bs b = true) (wt via : Int) (v1 v2 : Value) : arcSum n bs (putRows R a b wt via v1 v2) = arcSum n bs R + (if (weightM n bs R (a : Int) (b : Int)).isNone then 1 else 0) := by
  have ew : (weightM n bs R (a : Int) (b : Int)).isNone = !hasH (R false a).2.1 (b : Int) := by
    unfold weightM
    rw [aliveB_iff.2 ⟨a, rfl, han, la⟩, aliveB_iff.2 ⟨b, rfl, hbn, lb⟩, Int.toNat_natCast]
    cases hasH (R false a).2.1 (b : Int) <;> rfl
  have e : arcSum n bs (putRows R a b wt via v1 v2) = sumN n (fun u => if u = a then (livH bs (setH (R false a).2.1 ((b : Int), wt, via))).length else (livH bs (R false u).2.1).length) := sumN_congr (fun u _ => by
    unfold putRows
    rw [updS_far _ true false _ _ (by simp)]
    by_cases eu : u = a
    · subst eu
      rw [updS_at, if_pos rfl]
    · rw [updS_other _ _ _ _ _ _ (by simp [eu]), if_neg eu])
  have h3 := sumN_upd han (fun u => (livH bs (R false u).2.1).length) (livH bs (setH (R false a).2.1 ((b : Int), wt, via))).length
  have h4 := livH_setH (bs := bs) (h.ok.rise false a han) (a := ((b : Int), wt, via)) (by simpa [liv] using lb)
  have h5 : (setH (R false a).2.1 ((b : Int), wt, via)).length = (R false a).2.1.length + (if hasH (R false a).2.1 (b : Int) then 0 else 1) := by
    unfold setH
    simp only
    split
    · simp
    · rw [insH_len (lowH_le _ _)]
  rw [e, ew]
  unfold arcSum
  cases hh : hasH (R false a).2.1 (b : Int)
  · rw [hh] at h5
    simp at h5 ⊢
    omega
  · rw [hh] at h5
    simp at h5 ⊢
    omega
theorem arcSum_remove {n : Nat} {bs : List Bool} {R R' : Bool → Nat → Rw} (h : OvInv n bs R) {u : Nat} (hu : u < n) (lu : liv bs u = true) (hR : ∀ s v, v < n → (R' s v).2 = if v = u then ([], 0) else if hasH (livH (bs.set u false) (R (!s) u).2.1) (v : Int) then loseH (bs.set u false) (R s v).2.1 (R s v).2.2 else (R s v).2) :
    arcSum n (bs.set u false) R' + (livH bs (R false u).2.1).length + (livH bs (R true u).2.1).length = arcSum n bs R := by
  have e1 : ∀ v, v < n → v ≠ u → livH (bs.set u false) (R' false v).2.1 = livH (bs.set u false) (R false v).2.1 := fun v hv e => by
    rw [hR false v hv, if_neg e]
    split
    · unfold loseH
      split
      · exact livH_twice _ _
      · rfl
    · rfl
  have e2 : ∀ v, v < n → v ≠ u → (livH bs (R false v).2.1).length = (livH (bs.set u false) (R' false v).2.1).length + (if hasH (livH bs (R true u).2.1) (v : Int) then 1 else 0) := fun v hv e => by
    rw [e1 v hv e, livH_drop1 lu (h.ok.rise false v hv) (fun a ha => (h.ok.node false v hv a ha).1)]
    have e3 : hasH (R false v).2.1 (u : Int) = hasH (livH bs (R true u).2.1) (v : Int) := by
      rw [Bool.eq_iff_iff]
      constructor
      · intro hh
        obtain ⟨a, ha, hau⟩ := hasH_mem.1 hh
        have lv := h.liveEnd false hv ha
        have h4 := h.sym false v u a.2.1 a.2.2 hv hu lv lu (by rw [← hau]; exact ha)
        exact hasH_mem.2 ⟨_, livH_mem.2 ⟨h4, by simpa [liv] using lv⟩, rfl⟩
      · intro hh
        obtain ⟨a, ha, hav⟩ := hasH_mem.1 hh
        have h5 := livH_mem.1 ha
        have lv : liv bs v = true := by have h6 := h5.2; rw [hav, Int.toNat_natCast] at h6; exact h6
        have h4 := h.sym true u v a.2.1 a.2.2 hu hv lu lv (by rw [← hav]; exact h5.1)
        exact hasH_mem.2 ⟨_, h4, rfl⟩
    rw [e3]
  have e4 : hasH (livH bs (R true u).2.1) (u : Int) = false := by
    cases h6 : hasH (livH bs (R true u).2.1) (u : Int) with
    | false => rfl
    | true =>
      obtain ⟨a, ha, hau⟩ := hasH_mem.1 h6
      exact absurd hau (h.self true u hu a (livH_mem.1 ha).1)
  have e5 : (livH (bs.set u false) (R' false u).2.1).length = 0 := by
    rw [hR false u hu, if_pos rfl]
    rfl
  have h7 := sumN_has (n := n) (livH_rise (bs := bs) (h.ok.rise true u hu)) (fun a ha => h.ok.node true u hu a (livH_mem.1 ha).1)
  have h8 : sumN n (fun v => if v = u then (livH bs (R false u).2.1).length else (livH bs (R false v).2.1).length) = sumN n (fun v => if v = u then (livH bs (R false u).2.1).length else ((livH (bs.set u false) (R' false v).2.1).length + (if hasH (livH bs (R true u).2.1) (v : Int) then 1 else 0))) := sumN_congr (fun v hv => by
    by_cases e : v = u
    · rw [if_pos e, if_pos e]
    · rw [if_neg e, if_neg e, e2 v hv e])
  have h9 := sumN_upd hu (fun v => (livH bs (R false v).2.1).length) (livH bs (R false u).2.1).length
  have h10 := sumN_upd hu (fun v => (livH (bs.set u false) (R' false v).2.1).length + (if hasH (livH bs (R true u).2.1) (v : Int) then 1 else 0)) (livH bs (R false u).2.1).length
  rw [sumN_add, h7] at h10
  rw [h8] at h9
  simp only [e4, e5] at h10
  unfold arcSum
  simp at h9 h10
  omega
end Go.Proofs.YtbkclhaonbjobaaGreat

namespace Go.Proofs.YtbkclhaonbjobaaGreat
open Go.RowKit Go.Extern Go.Sort

/-- how many nodes are alive. -/
def aliveN (n : Nat) (bs : List Bool) : Nat := sumN n (fun u => if liv bs u then 1 else 0)
theorem sumN_le (n : Nat) (f : Nat → Nat) (c : Nat) (h : ∀ i, i < n → f i ≤ c) : sumN n f ≤ n * c := by
  induction n with
  | zero => simp [sumN]
  | succ n ih =>
    have h1 := ih (fun i hi => h i (by omega))
    have h2 := h n (by omega)
    simp only [sumN]
    rw [Nat.add_mul, Nat.one_mul]
    omega
theorem sumN_const (n c : Nat) : sumN n (fun _ => c) = n * c := by
  induction n with
  | zero => simp [sumN]
  | succ n ih =>
    simp only [sumN]
    rw [ih, Nat.add_mul, Nat.one_mul]
theorem aliveN_all (n : Nat) : aliveN n (List.replicate n true) = n := by
  unfold aliveN
  rw [sumN_congr (g := fun _ => 1) (fun i hi => by simp [liv, hi]), sumN_const, Nat.mul_one]
theorem aliveN_remove {n u : Nat} {bs : List Bool} (hu : u < n) (lu : liv bs u = true) : aliveN n (bs.set u false) + 1 = aliveN n bs := by
  have e : aliveN n (bs.set u false) = sumN n (fun v => if v = u then 0 else (if liv bs v then 1 else 0)) := sumN_congr (fun v _ => by
    rw [liv_set]
    by_cases e : v = u
    · rw [if_pos e, if_pos e]; rfl
    · rw [if_neg e, if_neg e])
  have h := sumN_upd hu (fun v => if liv bs v then 1 else 0) 0
  simp only [lu, if_true] at h
  rw [e]
  unfold aliveN
  omega
/-- an overlay whose numbers tell what is there. -/
def OvN (PX : Nat → Option Obj) (B0 : Nat) (w : World) (pb n : Nat) (bs : List Bool) (R : Bool → Nat → Rw) : Prop := IsOv PX B0 w pb n bs R (aliveN n bs : Nat) (arcSum n bs R : Nat)
section
variable {PX : Nat → Option Obj} {w w' : World} {B0 pb n : Nat} {bs : List Bool} {R : Bool → Nat → Rw}
end
end Go.Proofs.YtbkclhaonbjobaaGreat

namespace Go.Proofs.YtbkclhaonbjobaaGreat
open Go.RowKit Go.Extern Go.Sort
theorem btr {w wm wy : World} (h1 : Below w.heap.size w wm) (h2 : Below wm.heap.size wm wy) : Below w.heap.size w wy := h1.trans (h2.mono h1.size)

section
variable {n : Nat} {bs : List Bool} {R : Bool → Nat → Rw}
/-- what a node's list is, alive or not. -/
def rowL (bs : List Bool) (R : Bool → Nat → Rw) (s : Bool) (v : Nat) : List H3 := livH bs (R s v).2.1
theorem rowL_rise (h : OvInv n bs R) (s : Bool) {v : Nat} (hv : v < n) : RiseH (rowL bs R s v) := livH_rise (h.ok.rise s v hv)
/-- an end of a node's list, and the other side. -/
theorem rowL_at (h : OvInv n bs R) (s : Bool) {v : Nat} (hv : v < n) {a : H3} (ha : a ∈ rowL bs R s v) : ∃ m : Nat, a.1 = (m : Int) ∧ m < n ∧ liv bs m = true ∧ liv bs v = true ∧ m ≠ v ∧ ((v : Int), a.2.1, a.2.2) ∈ rowL bs R (!s) m := by
  obtain ⟨h1, h2⟩ := livH_mem.1 ha
  obtain ⟨h3, h4⟩ := h.ok.node s v hv a h1
  have lv := h.liveEnd s hv h1
  have hm : a.1 = (a.1.toNat : Int) := by omega
  have hself := h.self s v hv a h1
  refine ⟨a.1.toNat, hm, by omega, h2, lv, fun e => hself (by omega), livH_mem.2 ⟨?_, ?_⟩⟩
  · refine h.sym s v a.1.toNat a.2.1 a.2.2 hv (by omega) lv h2 ?_
    rw [← hm]
    exact h1
  · simpa [liv] using lv
/-- what Weight tells of an arc that is there. -/
theorem rowL_weight (h : OvInv n bs R) {v : Nat} (hv : v < n) {a : H3} (ha : a ∈ rowL bs R false v) : weightM n bs R (v : Int) a.1 = some a.2.1 := by
  obtain ⟨m, e, hm, lm, lv, _, _⟩ := rowL_at h false hv ha
  have h1 := (livH_mem.1 ha).1
  obtain ⟨h2, h3⟩ := low_mem (h.ok.rise false v hv) h1
  unfold weightM
  rw [aliveB_iff.2 ⟨v, rfl, hv, lv⟩, aliveB_iff.2 ⟨m, e, hm, lm⟩, Int.toNat_natCast, h2, h3]
  rfl
end
section
variable {PX : Nat → Option Obj} {w : World} {B0 pb n : Nat} {bs : List Bool} {R : Bool → Nat → Rw} {nodes arcs : Int}
end
end Go.Proofs.YtbkclhaonbjobaaGreat

namespace Go.Proofs.YtbkclhaonbjobaaGreat
open Go.RowKit Go.Extern Go.Sort

attribute [local go_sem] Oper.semAt_some

end Go.Proofs.YtbkclhaonbjobaaGreat

namespace Go.Proofs.YtbkclhaonbjobaaGreat
open Go.RowKit Go.Extern Go.Sort

attribute [local go_sem] Oper.semAt_some

/-- an arc of the reference: from, to, weight, via. -/
abbrev A4 := Int × Int × Int × Int
def HasA4 (w : World) (lv : Value) (xs : List A4) : Prop :=
  ∃ ao cap, lv = .slice ao xs.length cap ∧ ∀ j a, xs[j]? = some a → ∃ b off, ao = some ⟨b, off, none⟩ ∧ b < w.heap.size ∧ w.cell? ⟨b, off + j * 4, none⟩ = some (.int .i64 a.1) ∧ w.cell? ⟨b, off + j * 4 + 1, none⟩ = some (.int .i64 a.2.1) ∧ w.cell? ⟨b, off + j * 4 + 2, none⟩ = some (.int .u64 a.2.2.1) ∧ w.cell? ⟨b, off + j * 4 + 3, none⟩ = some (.int .i64 a.2.2.2)
theorem HasA4.at {w : World} {ao : Option Addr} {n cap : Nat} {xs : List A4} (h : HasA4 w (.slice ao n cap) xs) {k : Nat} {a : A4} (hp : xs[k]? = some a) :
    ∃ b off, ao = some ⟨b, off, none⟩ ∧ b < w.heap.size ∧ w.cell? ⟨b, off + k * 4, none⟩ = some (.int .i64 a.1) ∧ w.cell? ⟨b, off + k * 4 + 1, none⟩ = some (.int .i64 a.2.1) ∧ w.cell? ⟨b, off + k * 4 + 2, none⟩ = some (.int .u64 a.2.2.1) ∧ w.cell? ⟨b, off + k * 4 + 3, none⟩ = some (.int .i64 a.2.2.2) := by
  obtain ⟨ao', cap', e, hc⟩ := h
  injection e with e1 e2 e3
  subst e1
  exact hc k a hp
/-- one more put in its place. -/
def insA (l : List H3) (a : H3) : List H3 := insH l (lowH l a.1) a
def sortA (l : List H3) : List H3 := l.foldl insA []
theorem mem_insA {l : List H3} {a x : H3} : x ∈ insA l a ↔ x = a ∨ x ∈ l := by
  unfold insA insH
  rw [List.mem_append, List.mem_cons]
  have e : x ∈ l ↔ x ∈ l.take (lowH l a.1) ∨ x ∈ l.drop (lowH l a.1) := by rw [← List.mem_append, List.take_append_drop]
  rw [e]
  constructor
  · rintro (h | h | h)
    · exact Or.inr (Or.inl h)
    · exact Or.inl h
    · exact Or.inr (Or.inr h)
  · rintro (h | h | h)
    · exact Or.inr (Or.inl h)
    · exact Or.inl h
    · exact Or.inr (Or.inr h)
theorem sortA_len (l : List H3) : (sortA l).length = l.length := by
  have h : ∀ (l m : List H3), (l.foldl insA m).length = m.length + l.length := by
    intro l
    induction l with
    | nil => intro m; rfl
    | cons a r ih =>
      intro m
      rw [List.foldl_cons, ih]
      unfold insA
      rw [insH_len (lowH_le _ _), List.length_cons]
      omega
  have := h l []
  unfold sortA
  simpa using this
theorem sortA_mem (l : List H3) {x : H3} : x ∈ sortA l ↔ x ∈ l := by
  have h : ∀ (l m : List H3), x ∈ l.foldl insA m ↔ x ∈ m ∨ x ∈ l := by
    intro l
    induction l with
    | nil => intro m; simp
    | cons a r ih =>
      intro m
      rw [List.foldl_cons, ih, mem_insA, List.mem_cons]
      constructor
      · rintro ((h | h) | h)
        · exact Or.inr (Or.inl h)
        · exact Or.inl h
        · exact Or.inr (Or.inr h)
      · rintro (h | h | h)
        · exact Or.inl (Or.inr h)
        · exact Or.inl (Or.inl h)
        · exact Or.inr h
  have := h l []
  unfold sortA
  simpa using this
/-- what is put in one by one rises, where no two have the same end. -/
theorem foldA_rise : ∀ (l m : List H3), RiseH m → (∀ a ∈ m, ∀ b ∈ l, a.1 ≠ b.1) → l.Pairwise (fun a b => a.1 ≠ b.1) → RiseH (l.foldl insA m)
  | [], m, hm, _, _ => hm
  | a :: r, m, hm, h1, h2 => by
    obtain ⟨h3, h4⟩ := List.pairwise_cons.1 h2
    rw [List.foldl_cons]
    have hno : hasH m a.1 = false := by
      unfold hasH
      rw [List.any_eq_false]
      intro b hb
      have := h1 b hb a (by simp)
      simpa using this
    refine foldA_rise r _ (insH_rise hm hno) (fun x hx b hb => ?_) h4
    rcases mem_insA.1 hx with rfl | hx
    · exact h3 b hb
    · exact h1 x hx b (by simp [hb])
theorem sortA_rise {l : List H3} (h : l.Pairwise fun a b => a.1 ≠ b.1) : RiseH (sortA l) := foldA_rise l [] List.Pairwise.nil (fun a ha => by simp at ha) h
/-- the arcs of one side of a node, in the list's order. -/
def sideA (s : Bool) (zs : List A4) (v : Int) : List H3 := (zs.filter fun a => (if s then a.2.1 else a.1) == v).map fun a => (if s then a.1 else a.2.1, a.2.2.1, a.2.2.2)
end Go.Proofs.YtbkclhaonbjobaaGreat

namespace Go.Proofs.YtbkclhaonbjobaaGreat
open Go.RowKit Go.Extern Go.Sort

attribute [local go_sem] Oper.semAt_some

theorem Tryz.infoA4 : (Tryz.prog.info? 51).map (fun i => (i.zero, i.size, i.bytes)) = some (some (.agg #[.int .i64 0, .int .i64 0, .int .u64 0, .int .i64 0]), 4, 32) := by kernel_rfl
def flatA4 (l : List A4) : List Value := l.flatMap fun a => [.int .i64 a.1, .int .i64 a.2.1, .int .u64 a.2.2.1, .int .i64 a.2.2.2]
theorem flatA4_len (l : List A4) : (flatA4 l).length = l.length * 4 := by
  induction l with
  | nil => rfl
  | cons a r ih => simp only [flatA4, List.flatMap_cons, List.length_append, List.length_cons] at *; rw [ih]; simp; omega
theorem flatA4_append (l r : List A4) : flatA4 (l ++ r) = flatA4 l ++ flatA4 r := by simp [flatA4]
theorem flatA4_get : ∀ (l : List A4) (i : Nat) (a : A4), l[i]? = some a → (flatA4 l)[i * 4]? = some (.int .i64 a.1) ∧ (flatA4 l)[i * 4 + 1]? = some (.int .i64 a.2.1) ∧ (flatA4 l)[i * 4 + 2]? = some (.int .u64 a.2.2.1) ∧ (flatA4 l)[i * 4 + 3]? = some (.int .i64 a.2.2.2)
  | [], i, a, h => by simp at h
  | b :: r, 0, a, h => by
    simp at h
    subst h
    simp [flatA4]
  | b :: r, i + 1, a, h => by
    have ih := flatA4_get r i a (by simpa using h)
    have e : flatA4 (b :: r) = [.int .i64 b.1, .int .i64 b.2.1, .int .u64 b.2.2.1, .int .i64 b.2.2.2] ++ flatA4 r := by simp [flatA4]
    rw [e, show (i + 1) * 4 = i * 4 + 4 by omega]
    refine ⟨?_, ?_, ?_, ?_⟩
    · rw [List.getElem?_append_right (by simp)]; simpa using ih.1
    · rw [List.getElem?_append_right (by simp)]; simpa [show i * 4 + 4 + 1 - 4 = i * 4 + 1 by omega] using ih.2.1
    · rw [List.getElem?_append_right (by simp)]; simpa [show i * 4 + 4 + 2 - 4 = i * 4 + 2 by omega] using ih.2.2.1
    · rw [List.getElem?_append_right (by simp)]; simpa [show i * 4 + 4 + 3 - 4 = i * 4 + 3 by omega] using ih.2.2.2
theorem flatA4_one (l : List A4) : ∀ u ∈ flatA4 l, u.oneCell' = true := by
  intro u hu
  simp only [flatA4, List.mem_flatMap] at hu
  obtain ⟨a, _, ha⟩ := hu
  simp at ha
  rcases ha with rfl | rfl | rfl | rfl <;> rfl
theorem flatA4_at {w : World} {a : Addr} {n cap : Nat} {xs : List A4} (h : HasA4 w (.slice (some a) n cap) xs) : ∀ j u, (flatA4 xs)[j]? = some u → w.cell? (a.add j) = some u := by
  intro j u hj
  have hlt := (List.getElem?_eq_some_iff.1 hj).1
  rw [flatA4_len] at hlt
  have hx : xs[j / 4]? = some xs[j / 4] := List.getElem?_eq_getElem (by omega)
  obtain ⟨b, off, e, _, h0, h1, h2, h3⟩ := h.at hx
  obtain ⟨g0, g1, g2, g3⟩ := flatA4_get xs (j / 4) _ hx
  obtain rfl : a = ⟨b, off, none⟩ := Option.some.inj e
  have ea : (⟨b, off, none⟩ : Addr).add j = ⟨b, off + j, none⟩ := by unfold Addr.add; split <;> simp_all
  rw [ea]
  rcases (show j = j / 4 * 4 ∨ j = j / 4 * 4 + 1 ∨ j = j / 4 * 4 + 2 ∨ j = j / 4 * 4 + 3 by omega) with hj' | hj' | hj' | hj'
  · rw [hj'] at hj ⊢; rw [g0] at hj; cases hj; exact h0
  · rw [hj'] at hj ⊢; rw [g1] at hj; cases hj; exact h1
  · rw [hj'] at hj ⊢; rw [g2] at hj; cases hj; exact h2
  · rw [hj'] at hj ⊢; rw [g3] at hj; cases hj; exact h3
theorem a4_of_row {w : World} {base : Nat} {v : Value} {l : List A4} (h : w.ownsRow base 51 4 v l.length (flatA4 l)) : HasA4 w v l := by
  rcases h.2 with ⟨e, h0⟩ | ⟨g, cap, cur, rfl, hg, hh, _⟩
  · have : l = [] := List.eq_nil_of_length_eq_zero h0
    subst this
    exact ⟨none, 0, e, fun j p hj => by simp at hj⟩
  · refine ⟨_, cap, rfl, fun j a hj => ⟨g, 0, rfl, lt_of_get hh, ?_⟩⟩
    have hlt := (List.getElem?_eq_some_iff.1 hj).1
    obtain ⟨g0, g1, g2, g3⟩ := flatA4_get l j a hj
    rw [Nat.zero_add]
    exact ⟨(h.cellAt (j * 4) (by omega)).trans g0, (h.cellAt (j * 4 + 1) (by omega)).trans g1, (h.cellAt (j * 4 + 2) (by omega)).trans g2, (h.cellAt (j * 4 + 3) (by omega)).trans g3⟩
theorem row4_slice {w : World} {base n : Nat} {xs : List Value} {v : Value} (h : w.ownsRow base 51 4 v n xs) : ∃ ao cap, v = .slice ao n cap := by
  rcases h.2 with ⟨h, h'⟩ | ⟨g, cap, cur, h, _⟩
  · exact ⟨none, 0, by rw [h']; exact h⟩
  · exact ⟨_, cap, h⟩
/-- one arc in a block of its own. -/
theorem a4_one (w : World) (a : A4) (T : TypeId) : HasA4 (w.alloc (.cells #[.int .i64 a.1, .int .i64 a.2.1, .int .u64 a.2.2.1, .int .i64 a.2.2.2] T)) (.slice (some ⟨w.heap.size, 0, none⟩) 1 1) [a] := by
  have h := heap_new w (.cells #[.int .i64 a.1, .int .i64 a.2.1, .int .u64 a.2.2.1, .int .i64 a.2.2.2] T)
  generalize w.alloc (.cells #[.int .i64 a.1, .int .i64 a.2.1, .int .u64 a.2.2.1, .int .i64 a.2.2.2] T) = W at h ⊢
  refine ⟨_, _, rfl, fun j x hj => ?_⟩
  cases j with
  | zero =>
    simp at hj
    subst hj
    exact ⟨_, 0, rfl, lt_of_get h, by simp [World.cell?, h], by simp [World.cell?, h], by simp [World.cell?, h], by simp [World.cell?, h]⟩
  | succ j => simp at hj
end Go.Proofs.YtbkclhaonbjobaaGreat

namespace Go.Proofs.YtbkclhaonbjobaaGreat
open Go.RowKit Go.Extern Go.Sort

attribute [local go_sem] Oper.semAt_some

theorem hso {w : World} {b o j : Nat} (v : Value) (h : j ≠ b) : (w.setCell ⟨b, o, none⟩ v).heap[j]? = w.heap[j]? := by
  first | exact heap_setCell_other _ _ _ _ h | exact heap_setCell_other _ _ _ _ h.symm
/-- New's memory: the graph's box, the answer, the flags, the overlay in the making, and its arcs. -/
structure NM (ao : Option Addr) (k0 cap : Nat) (w0 w : World) (X p1 p2 p3 B n : Nat) (bs : List Bool) (lv : Value) (L : List A4) : Prop where
  g : w.heap[X]? = some (.cells #[.int .i64 (n : Int), .slice ao k0 cap] 24 (0, 0))
  z : w.heap[p1]? = some (.cells #[.slice none 0 0, .slice none 0 0] 44 (0, 0))
  f : w.heap[p2]? = some (.cells (bC bs) 4 (0, 0))
  o : w.heap[p3]? = some (.cells #[.slice (some ⟨p2, 0, none⟩) n n, lv] 44 (0, 0))
  own : w.ownsRow B 51 4 lv L.length (flatA4 L)
  bel : Below X w0 w
  len : bs.length = n
  ord : X < p1 ∧ p1 < p2 ∧ p2 < p3 ∧ p3 < B ∧ B ≤ w.heap.size
section
variable {ao : Option Addr} {k0 cap X p1 p2 p3 B n : Nat} {w0 w : World} {bs : List Bool} {lv : Value} {L : List A4}
end
/-- an arc of the graph as the reference's. -/
def asA4 (a : Int × Int × Int) : A4 := (a.1, a.2.1, a.2.2, -1)

end Go.Proofs.YtbkclhaonbjobaaGreat

namespace Go.Proofs.YtbkclhaonbjobaaGreat
open Go.RowKit Go.Extern Go.Sort

/-- what the reference tells of a side is what New laid there. -/
theorem sideA_sideL (s : Bool) (zs : List (Int × Int × Int)) (u : Nat) : sideA s (zs.map asA4) (u : Int) = sideL s zs u := by
  induction zs with
  | nil => cases s <;> rfl
  | cons a r ih =>
    cases s
    · simp only [sideA, sideL, Bool.false_eq_true, if_false] at ih ⊢
      by_cases h : a.1 = (u : Int)
      · rw [List.map_cons, List.filter_cons_of_pos (by simp [asA4, h]), List.filter_cons_of_pos (by simp [h]), List.map_cons, List.map_cons, ih]
        rfl
      · rw [List.map_cons, List.filter_cons_of_neg (by simp [asA4, h]), List.filter_cons_of_neg (by simp [h]), ih]
    · simp only [sideA, sideL, if_true] at ih ⊢
      by_cases h : a.2.1 = (u : Int)
      · rw [List.map_cons, List.filter_cons_of_pos (by simp [asA4, h]), List.filter_cons_of_pos (by simp [h]), List.map_cons, List.map_cons, ih]
        rfl
      · rw [List.map_cons, List.filter_cons_of_neg (by simp [asA4, h]), List.filter_cons_of_neg (by simp [h]), ih]
end Go.Proofs.YtbkclhaonbjobaaGreat

namespace Go.Proofs.YtbkclhaonbjobaaGreat
open Go.RowKit Go.Extern Go.Sort

/-- the list of arcs and the rows tell the same. -/
structure Tied (n : Nat) (bs : List Bool) (R : Bool → Nat → Rw) (zs : List A4) : Prop where
  ends : ∀ a ∈ zs, ∃ u v : Nat, a.1 = (u : Int) ∧ a.2.1 = (v : Int) ∧ u < n ∧ v < n ∧ liv bs u = true ∧ liv bs v = true ∧ u ≠ v
  one : zs.Pairwise fun a b => ¬ (a.1 = b.1 ∧ a.2.1 = b.2.1)
  row : ∀ s u, u < n → ∀ h, h ∈ rowL bs R s u ↔ h ∈ sideA s zs (u : Int)
theorem sideA_mem_false {zs : List A4} {v : Int} {h : H3} : h ∈ sideA false zs v ↔ (v, h.1, h.2.1, h.2.2) ∈ zs := by
  unfold sideA
  simp only [Bool.false_eq_true, if_false, List.mem_map, List.mem_filter, beq_iff_eq]
  constructor
  · rintro ⟨a, ⟨h1, h2⟩, rfl⟩
    rw [← h2]; exact h1
  · intro h1
    exact ⟨_, ⟨h1, rfl⟩, rfl⟩
theorem sideA_mem_true {zs : List A4} {v : Int} {h : H3} : h ∈ sideA true zs v ↔ (h.1, v, h.2.1, h.2.2) ∈ zs := by
  unfold sideA
  simp only [if_true, List.mem_map, List.mem_filter, beq_iff_eq]
  constructor
  · rintro ⟨a, ⟨h1, h2⟩, rfl⟩
    rw [← h2]; exact h1
  · intro h1
    exact ⟨_, ⟨h1, rfl⟩, rfl⟩
theorem sideA_pw {zs : List A4} (ho : zs.Pairwise fun a b => ¬ (a.1 = b.1 ∧ a.2.1 = b.2.1)) (s : Bool) (v : Int) : (sideA s zs v).Pairwise fun a b => a.1 ≠ b.1 := by
  unfold sideA
  rw [List.pairwise_map, List.pairwise_filter]
  refine ho.imp ?_
  intro a b hab ha hb
  cases s
  · simp at ha hb ⊢
    intro e
    exact hab ⟨by omega, e⟩
  · simp at ha hb ⊢
    intro e
    exact hab ⟨e, by omega⟩
theorem riseH_ext : ∀ {l m : List H3}, RiseH l → RiseH m → (∀ h, h ∈ l ↔ h ∈ m) → l = m
  | [], m, _, _, h => by
    cases m with
    | nil => rfl
    | cons b t => exact absurd ((h b).2 (by simp)) (by simp)
  | a :: r, m, hl, hm, h => by
    obtain ⟨l1, l2⟩ := List.pairwise_cons.1 hl
    cases m with
    | nil => exact absurd ((h a).1 (by simp)) (by simp)
    | cons b t =>
      obtain ⟨m1, m2⟩ := List.pairwise_cons.1 hm
      have hab : a = b := by
        rcases List.mem_cons.1 ((h a).1 (by simp)) with e | e
        · exact e
        · rcases List.mem_cons.1 ((h b).2 (by simp)) with e2 | e2
          · exact e2.symm
          · have := m1 a e; have := l1 b e2; omega
      subst hab
      have : r = t := riseH_ext l2 m2 (fun x => by
        constructor
        · intro hx
          rcases List.mem_cons.1 ((h x).1 (by simp [hx])) with e | e
          · have := l1 x hx; rw [e] at this; omega
          · exact e
        · intro hx
          rcases List.mem_cons.1 ((h x).2 (by simp [hx])) with e | e
          · have := m1 x hx; rw [e] at this; omega
          · exact e)
      rw [this]
section
variable {n : Nat} {bs : List Bool} {R : Bool → Nat → Rw} {zs : List A4}
theorem Tied.rows (h : Tied n bs R zs) (hi : OvInv n bs R) (s : Bool) {u : Nat} (hu : u < n) : sortA (sideA s zs (u : Int)) = rowL bs R s u :=
  riseH_ext (sortA_rise (sideA_pw h.one s u)) (rowL_rise hi s hu) (fun x => (sortA_mem _).trans (h.row s u hu x).symm)
/-- what a node's list is, whatever the node. -/
def outM (n : Nat) (bs : List Bool) (R : Bool → Nat → Rw) (s : Bool) (x : Int) : List H3 := if aliveB n bs x then rowL bs R s x.toNat else []
theorem Tied.outM (h : Tied n bs R zs) (hi : OvInv n bs R) (s : Bool) (x : Int) : sortA (sideA s zs x) = outM n bs R s x := by
  unfold Go.Proofs.YtbkclhaonbjobaaGreat.outM
  cases hx : aliveB n bs x with
  | true =>
    obtain ⟨u, rfl, hu, _⟩ := aliveB_iff.1 hx
    simpa using h.rows hi s hu
  | false =>
    have e : sideA s zs x = [] := by
      rw [List.eq_nil_iff_forall_not_mem]
      intro y hy
      have hx2 : ¬ aliveB n bs x = true := by rw [hx]; simp
      apply hx2
      cases s with
      | false =>
        obtain ⟨u, v, e1, _, hu, _, lu, _⟩ := h.ends _ (sideA_mem_false.1 hy)
        exact aliveB_iff.2 ⟨u, e1, hu, lu⟩
      | true =>
        obtain ⟨u, v, _, e1, _, hu, _, lu, _⟩ := h.ends _ (sideA_mem_true.1 hy)
        exact aliveB_iff.2 ⟨v, e1, hu, lu⟩
    rw [e]
    rfl
/-- the arc between two nodes. -/
def findA (zs : List A4) (x y : Int) : Option A4 := zs.find? fun a => a.1 == x && a.2.1 == y
theorem findA_some {x y : Int} {a : A4} (h : findA zs x y = some a) : a ∈ zs ∧ a.1 = x ∧ a.2.1 = y := by
  have h1 := List.find?_some h
  simp at h1
  exact ⟨List.mem_of_find?_eq_some h, h1.1, h1.2⟩
theorem findA_none {x y : Int} (h : findA zs x y = none) {a : A4} (ha : a ∈ zs) : ¬ (a.1 = x ∧ a.2.1 = y) := by
  have h1 := List.find?_eq_none.1 h a ha
  simpa using h1
theorem Tied.weight (h : Tied n bs R zs) (hi : OvInv n bs R) (x y : Int) : weightM n bs R x y = (findA zs x y).map (·.2.2.1) := by
  cases hf : findA zs x y with
  | some a =>
    obtain ⟨ha, rfl, rfl⟩ := findA_some hf
    obtain ⟨u, v, e1, e2, hu, hv, lu, lv, _⟩ := h.ends a ha
    have h1 : (a.2.1, a.2.2.1, a.2.2.2) ∈ rowL bs R false u := (h.row false u hu _).2 (sideA_mem_false.2 (by rw [← e1]; exact ha))
    rw [e1]
    exact rowL_weight hi hu h1
  | none =>
    show _ = none
    unfold weightM
    cases hx : aliveB n bs x with
    | false => rfl
    | true =>
      cases hy : aliveB n bs y with
      | false => rfl
      | true =>
        obtain ⟨u, rfl, hu, lu⟩ := aliveB_iff.1 hx
        obtain ⟨v, rfl, hv, lv⟩ := aliveB_iff.1 hy
        rw [Int.toNat_natCast]
        cases hh : hasH (R false u).2.1 (v : Int) with
        | false => rfl
        | true =>
          obtain ⟨a, ha, e⟩ := hasH_mem.1 hh
          have h2 : a ∈ rowL bs R false u := livH_mem.2 ⟨ha, by rw [e, Int.toNat_natCast]; exact lv⟩
          exact absurd ⟨rfl, e⟩ (findA_none hf (sideA_mem_false.1 ((h.row false u hu a).1 h2)))
theorem tied_new {zs : List (Int × Int × Int)} (hr : RiseA zs) (hs : ∀ a ∈ zs, a.1 ≠ a.2.1) (hn : ∀ a ∈ zs, (0 ≤ a.1 ∧ a.1 < (n : Int)) ∧ (0 ≤ a.2.1 ∧ a.2.1 < (n : Int))) (hR : ∀ s u, u < n → (R s u).2 = (sideL s zs u, 0)) : Tied n (List.replicate n true) R (zs.map asA4) := by
  have hl : ∀ m : Nat, m < n → liv (List.replicate n true) m = true := fun m hm => by unfold liv; simp [hm]
  refine ⟨fun a ha => ?_, ?_, fun s u hu h => ?_⟩
  · obtain ⟨b, hb, rfl⟩ := List.mem_map.1 ha
    obtain ⟨⟨h1, h2⟩, h3, h4⟩ := hn b hb
    have := hs b hb
    exact ⟨b.1.toNat, b.2.1.toNat, by show b.1 = _; omega, by show b.2.1 = _; omega, by omega, by omega, hl _ (by omega), hl _ (by omega), by omega⟩
  · rw [List.pairwise_map]
    refine List.Pairwise.imp ?_ (show zs.Pairwise lessA from hr)
    intro a b hab
    unfold lessA at hab
    simp only [asA4]
    omega
  · rw [sideA_sideL]
    unfold rowL
    rw [livH_mem, hR s u hu]
    refine ⟨fun h => h.1, fun h1 => ⟨h1, ?_⟩⟩
    cases s with
    | false =>
      have h2 := hn _ (sideL_mem_false.1 h1).1
      simp only at h2
      exact hl _ (by omega)
    | true =>
      have h2 := hn _ (sideL_mem_true.1 h1).1
      simp only at h2
      exact hl _ (by omega)
theorem sameB_iff (x a : A4) : (!(x.1 == a.1 && x.2.1 == a.2.1)) = true ↔ ¬ (x.1 = a.1 ∧ x.2.1 = a.2.1) := by
  by_cases h1 : x.1 = a.1 <;> by_cases h2 : x.2.1 = a.2.1 <;> simp [h1, h2]
/-- what a Put leaves. -/
def putZ (zs : List A4) (a : A4) : List A4 := (zs.filter fun x => !(x.1 == a.1 && x.2.1 == a.2.1)) ++ [a]
theorem putZ_mem {a x : A4} : x ∈ putZ zs a ↔ (x ∈ zs ∧ ¬ (x.1 = a.1 ∧ x.2.1 = a.2.1)) ∨ x = a := by
  unfold putZ
  rw [List.mem_append, List.mem_filter, List.mem_singleton, sameB_iff]
theorem putZ_len (a : A4) : (putZ zs a).length ≤ zs.length + 1 := by
  unfold putZ
  rw [List.length_append]
  have := List.length_filter_le (fun x : A4 => !(x.1 == a.1 && x.2.1 == a.2.1)) zs
  simp only [List.length_cons, List.length_nil]
  omega
theorem Tied.put (h : Tied n bs R zs) (hi : OvInv n bs R) {a b : Nat} (han : a < n) (hbn : b < n) (hab : a ≠ b) (la : liv bs a = true) (lb : liv bs b = true) (wt via : Int) (v1 v2 : Value) : Tied n bs (putRows R a b wt via v1 v2) (putZ zs ((a : Int), (b : Int), wt, via)) := by
  refine ⟨fun x hx => ?_, ?_, fun s u hu y => ?_⟩
  · rcases putZ_mem.1 hx with ⟨h1, _⟩ | rfl
    · exact h.ends x h1
    · exact ⟨a, b, rfl, rfl, han, hbn, la, lb, hab⟩
  · unfold putZ
    rw [List.pairwise_append]
    refine ⟨h.one.filter _, by simp, ?_⟩
    intro x hx z hz
    rw [List.mem_singleton] at hz
    subst hz
    exact (sameB_iff x _).1 (List.mem_filter.1 hx).2
  · cases s with
    | false =>
      rw [sideA_mem_false, putZ_mem]
      by_cases eu : u = a
      · subst eu
        have e : rowL bs (putRows R u b wt via v1 v2) false u = livH bs (setH (R false u).2.1 ((b : Int), wt, via)) := by
          unfold rowL putRows
          rw [updS_far _ true false _ _ (by simp), updS_at]
        rw [e, livH_mem, setH_iff (hi.ok.rise false u hu)]
        constructor
        · rintro ⟨rfl | ⟨h1, h2⟩, h3⟩
          · exact Or.inr rfl
          · exact Or.inl ⟨sideA_mem_false.1 ((h.row false u hu y).1 (livH_mem.2 ⟨h1, h3⟩)), fun e => h2 e.2⟩
        · rintro (⟨h1, h2⟩ | h1)
          · have h3 := livH_mem.1 ((h.row false u hu y).2 (sideA_mem_false.2 h1))
            exact ⟨Or.inr ⟨h3.1, fun e => h2 ⟨rfl, e⟩⟩, h3.2⟩
          · have h4 : y = ((b : Int), wt, via) := by
              simp only [Prod.mk.injEq] at h1
              obtain ⟨_, e1, e2, e3⟩ := h1
              exact Prod.ext e1 (Prod.ext e2 e3)
            subst h4
            exact ⟨Or.inl rfl, by simpa [liv] using lb⟩
      · have e : rowL bs (putRows R a b wt via v1 v2) false u = rowL bs R false u := by
          unfold rowL putRows
          rw [updS_far _ true false _ _ (by simp), updS_other _ _ _ _ _ _ (by simp [eu])]
        rw [e, h.row false u hu, sideA_mem_false]
        constructor
        · intro h1
          exact Or.inl ⟨h1, fun e => eu (by have := e.1; simp at this; omega)⟩
        · rintro (⟨h1, _⟩ | h1)
          · exact h1
          · injection h1 with e1 _
            exact absurd e1 (by omega)
    | true =>
      rw [sideA_mem_true, putZ_mem]
      by_cases eu : u = b
      · subst eu
        have e : rowL bs (putRows R a u wt via v1 v2) true u = livH bs (setH (R true u).2.1 ((a : Int), wt, via)) := by
          unfold rowL putRows
          rw [updS_at]
        rw [e, livH_mem, setH_iff (hi.ok.rise true u hu)]
        constructor
        · rintro ⟨rfl | ⟨h1, h2⟩, h3⟩
          · exact Or.inr rfl
          · exact Or.inl ⟨sideA_mem_true.1 ((h.row true u hu y).1 (livH_mem.2 ⟨h1, h3⟩)), fun e => h2 e.1⟩
        · rintro (⟨h1, h2⟩ | h1)
          · have h3 := livH_mem.1 ((h.row true u hu y).2 (sideA_mem_true.2 h1))
            exact ⟨Or.inr ⟨h3.1, fun e => h2 ⟨e, rfl⟩⟩, h3.2⟩
          · have h4 : y = ((a : Int), wt, via) := by
              simp only [Prod.mk.injEq] at h1
              obtain ⟨e1, _, e2, e3⟩ := h1
              exact Prod.ext e1 (Prod.ext e2 e3)
            subst h4
            exact ⟨Or.inl rfl, by simpa [liv] using la⟩
      · have e : rowL bs (putRows R a b wt via v1 v2) true u = rowL bs R true u := by
          unfold rowL putRows
          rw [updS_other _ _ _ _ _ _ (by simp [eu]), updS_far _ false true _ _ (by simp)]
        rw [e, h.row true u hu, sideA_mem_true]
        constructor
        · intro h1
          exact Or.inl ⟨h1, fun e => eu (by have := e.2; simp at this; omega)⟩
        · rintro (⟨h1, _⟩ | h1)
          · exact h1
          · injection h1 with _ h1
            injection h1 with e1 _
            exact absurd e1 (by omega)
/-- what a Remove leaves. -/
def remZ (zs : List A4) (x : Int) : List A4 := zs.filter fun a => a.1 != x && a.2.1 != x
theorem remZ_mem {x : Int} {a : A4} : a ∈ remZ zs x ↔ a ∈ zs ∧ a.1 ≠ x ∧ a.2.1 ≠ x := by
  unfold remZ
  rw [List.mem_filter]
  simp
theorem Tied.remove (h : Tied n bs R zs) {R' : Bool → Nat → Rw} {u : Nat} (hu : u < n) (hR : ∀ s v, v < n → (R' s v).2 = if v = u then ([], 0) else if hasH (livH (bs.set u false) (R (!s) u).2.1) (v : Int) then loseH (bs.set u false) (R s v).2.1 (R s v).2.2 else (R s v).2) : Tied n (bs.set u false) R' (remZ zs (u : Int)) := by
  refine ⟨fun x hx => ?_, h.one.filter _, fun s v hv y => ?_⟩
  · obtain ⟨h1, h2, h3⟩ := remZ_mem.1 hx
    obtain ⟨p, q, e1, e2, hp, hq, lp, lq, hpq⟩ := h.ends x h1
    refine ⟨p, q, e1, e2, hp, hq, ?_, ?_, hpq⟩
    · rw [liv_set, if_neg (by omega)]; exact lp
    · rw [liv_set, if_neg (by omega)]; exact lq
  · by_cases ev : v = u
    · subst ev
      have e : rowL (bs.set v false) R' s v = [] := by
        unfold rowL
        rw [hR s v hv, if_pos rfl]
        rfl
      rw [e]
      constructor
      · intro h1; cases h1
      · intro h1
        cases s with
        | false => exact absurd rfl (remZ_mem.1 (sideA_mem_false.1 h1)).2.1
        | true => exact absurd rfl (remZ_mem.1 (sideA_mem_true.1 h1)).2.2
    · have e : rowL (bs.set u false) R' s v = livH (bs.set u false) (R s v).2.1 := by
        unfold rowL
        rw [hR s v hv, if_neg ev]
        split
        · unfold loseH
          split
          · exact livH_twice _ _
          · rfl
        · rfl
      have e2 : y ∈ livH (bs.set u false) (R s v).2.1 ↔ y ∈ rowL bs R s v ∧ y.1.toNat ≠ u := by
        unfold rowL
        have hls := liv_set bs u y.1.toNat
        unfold liv at hls
        rw [livH_mem, livH_mem, hls]
        by_cases e3 : y.1.toNat = u
        · simp [e3]
        · simp [e3]
      rw [e, e2, h.row s v hv]
      cases s with
      | false =>
        rw [sideA_mem_false, sideA_mem_false, remZ_mem]
        constructor
        · rintro ⟨h1, h2⟩
          obtain ⟨p, q, e1, e2, _⟩ := h.ends _ h1
          simp only at e1 e2
          exact ⟨h1, by show (v : Int) ≠ _; omega, by show y.1 ≠ _; omega⟩
        · rintro ⟨h1, _, h2⟩
          obtain ⟨p, q, e1, e2, _⟩ := h.ends _ h1
          simp only at e1 e2 h2
          exact ⟨h1, by omega⟩
      | true =>
        rw [sideA_mem_true, sideA_mem_true, remZ_mem]
        constructor
        · rintro ⟨h1, h2⟩
          obtain ⟨p, q, e1, e2, _⟩ := h.ends _ h1
          simp only at e1 e2
          exact ⟨h1, by show y.1 ≠ _; omega, by show (v : Int) ≠ _; omega⟩
        · rintro ⟨h1, h2, _⟩
          obtain ⟨p, q, e1, e2, _⟩ := h.ends _ h1
          simp only at e1 e2 h2
          exact ⟨h1, by omega⟩
theorem side_sumA : ∀ {zs : List A4}, (∀ a ∈ zs, 0 ≤ a.1 ∧ a.1 < (n : Int)) → sumN n (fun u => (sideA false zs (u : Int)).length) = zs.length
  | [], _ => sumN_zero n
  | a :: r, h0 => by
    have ih := side_sumA (zs := r) (fun b hb => h0 b (by simp [hb]))
    obtain ⟨m, hm⟩ : ∃ m : Nat, a.1 = (m : Int) := ⟨a.1.toNat, by have := (h0 a (by simp)).1; omega⟩
    have hmn : m < n := by have := (h0 a (by simp)).2; omega
    have e : sumN n (fun u => (sideA false (a :: r) (u : Int)).length) = sumN n (fun u => if u = m then (sideA false r (m : Int)).length + 1 else (sideA false r (u : Int)).length) := sumN_congr (fun u _ => by
      unfold sideA
      simp only [Bool.false_eq_true, if_false, List.length_map]
      by_cases eu : u = m
      · subst eu
        rw [if_pos rfl, List.filter_cons_of_pos (by simpa using hm), List.length_cons]
      · rw [if_neg eu, List.filter_cons_of_neg (by simp [hm]; omega)])
    have h3 := sumN_upd hmn (fun u => (sideA false r (u : Int)).length) ((sideA false r (m : Int)).length + 1)
    rw [e, List.length_cons]
    omega
theorem Tied.arcs (h : Tied n bs R zs) (hi : OvInv n bs R) : arcSum n bs R = zs.length := by
  have e : sumN n (fun u => (sideA false zs (u : Int)).length) = zs.length := side_sumA (fun a ha => by
    obtain ⟨u, v, e1, _, hu, _⟩ := h.ends a ha
    omega)
  rw [← e]
  exact sumN_congr (fun u hu => by
    show (rowL bs R false u).length = _
    rw [← h.rows hi false hu, sortA_len])
end
end Go.Proofs.YtbkclhaonbjobaaGreat
