/- an overlay in memory; what only reads it. -/
import Derived.Test.YtcfpkbmeblfhoaaOvO
namespace Go.Proofs.Ytcfpkbmeblfhoaa
open Go.RowKit Go.Extern Go.Sort

attribute [local go_sem] Oper.semAt_some

/-- a row: its list's value, its halves, how many are gone. -/
abbrev Rw := Value × List H3 × Nat
/-- rows' cells. -/
def rC (n : Nat) (f : Nat → Rw) : Array Value := ((List.range n).flatMap fun u => [(f u).1, .int .i64 ((f u).2.2 : Nat)]).toArray
theorem rC_len (n : Nat) (f : Nat → Rw) : (rC n f).size = n * 2 := by
  unfold rC
  induction n with
  | zero => simp
  | succ n ih => rw [List.range_succ]; simp at ih ⊢; omega
theorem rC_get (n : Nat) (f : Nat → Rw) (j : Nat) : (rC n f)[j]? = if j < n * 2 then some (if j % 2 = 0 then (f (j / 2)).1 else .int .i64 ((f (j / 2)).2.2 : Nat)) else none := by
  induction n with
  | zero => simp [rC]
  | succ n ih =>
    have e : rC (n + 1) f = rC n f ++ #[(f n).1, .int .i64 ((f n).2.2 : Nat)] := by
      unfold rC
      rw [List.range_succ, List.flatMap_append]
      simp
    rw [e, Array.getElem?_append, rC_len]
    split
    · rename_i h
      rw [ih, if_pos h, if_pos (show j < (n + 1) * 2 by omega)]
    · rename_i h
      rcases (show j = n * 2 ∨ j = n * 2 + 1 ∨ (n + 1) * 2 ≤ j by omega) with hj | hj | hj
      · subst hj
        rw [if_pos (by omega)]
        simp [show n * 2 / 2 = n by omega]
      · subst hj
        rw [if_pos (by omega)]
        simp [show (n * 2 + 1) / 2 = n by omega, show (n * 2 + 1) % 2 = 1 by omega]
      · rw [if_neg (by omega), Array.getElem?_eq_none]
        simp
        omega
/-- rows with one of them changed. -/
def updR (f : Nat → Rw) (u : Nat) (r : Rw) : Nat → Rw := fun x => if x = u then r else f x
theorem rC_set (n : Nat) (f : Nat → Rw) (u : Nat) (r : Rw) : ((rC n f).setIfInBounds (u * 2) r.1).setIfInBounds (u * 2 + 1) (.int .i64 (r.2.2 : Nat)) = rC n (updR f u r) := by
  apply Array.ext_getElem?
  intro j
  simp only [Array.getElem?_setIfInBounds, Array.size_setIfInBounds, rC_len, rC_get, updR]
  rcases (show j = u * 2 ∨ j = u * 2 + 1 ∨ (j ≠ u * 2 ∧ j ≠ u * 2 + 1) by omega) with hj | hj | hj
  · subst hj
    rw [if_neg (by omega), if_pos rfl]
    simp [show u * 2 / 2 = u by omega]
  · subst hj
    rw [if_pos rfl]
    simp [show (u * 2 + 1) / 2 = u by omega, show (u * 2 + 1) % 2 = 1 by omega]
  · rw [if_neg (show ¬ u * 2 + 1 = j by omega), if_neg (show ¬ u * 2 = j by omega)]
    simp only [show ¬ j / 2 = u by omega, if_false]
/-- nothing is guarded. -/
def noP : Nat → Option Obj := fun _ => none
/-- an overlay in memory, and blocks that are none of its own. -/
structure OvMem (PX : Nat → Option Obj) (w : World) (B pb ab : Nat) (sb : Bool → Nat) (n : Nat) (bs : List Bool) (R : Bool → Nat → Rw) (nodes arcs : Int) : Prop where
  box : w.heap[pb]? = some (.cells #[.slice (some ⟨ab, 0, none⟩) n n, .slice (some ⟨sb false, 0, none⟩) n n, .slice (some ⟨sb true, 0, none⟩) n n, .int .i64 nodes, .int .i64 arcs] 49 (0, 0))
  al : w.heap[ab]? = some (.cells (bC bs) 4 (0, 0))
  row : ∀ s, w.heap[sb s]? = some (.cells (rC n (R s)) 54 (0, 0))
  bl : bs.length = n
  big : n ≤ 65536
  own : ∀ s u, u < n → w.ownsRow B 57 3 (R s u).1 (R s u).2.1.length (flatH (R s u).2.1)
  low : B ≤ pb ∧ B ≤ ab ∧ ∀ s, B ≤ sb s
  two : sb false ≠ sb true
  prot : ∀ X o, PX X = some o → w.heap[X]? = some o ∧ X ≠ pb ∧ X ≠ ab ∧ (∀ s, X ≠ sb s) ∧ ∀ s u, u < n → (R s u).1.ownBlock ≠ some X
  apart : ∀ s u k, u < n → (R s u).1.ownBlock = some k → ∀ s' u', u' < n → (s', u') ≠ (s, u) → (R s' u').1.ownBlock ≠ some k
section
variable {w w' : World} {PX : Nat → Option Obj} {B pb ab n : Nat} {sb : Bool → Nat} {bs : List Bool} {R : Bool → Nat → Rw} {nodes arcs : Int}
theorem OvMem.keep (h : OvMem PX w B pb ab sb n bs R nodes arcs) (hb : Below w.heap.size w w') : OvMem PX w' B pb ab sb n bs R nodes arcs :=
  ⟨(hb.block _ (lt_of_get h.box)).trans h.box, (hb.block _ (lt_of_get h.al)).trans h.al, fun s => (hb.block _ (lt_of_get (h.row s))).trans (h.row s), h.bl, h.big, fun s u hu => rowH_keep (h.own s u hu) hb, h.low, h.two, fun X o hX => ⟨(hb.block _ (lt_of_get (h.prot X o hX).1)).trans (h.prot X o hX).1, (h.prot X o hX).2⟩, h.apart⟩
theorem OvMem.cells (h : OvMem PX w B pb ab sb n bs R nodes arcs) : w.cell? ⟨pb, 0, none⟩ = some (.slice (some ⟨ab, 0, none⟩) n n) ∧ w.cell? ⟨pb, 1, none⟩ = some (.slice (some ⟨sb false, 0, none⟩) n n) ∧ w.cell? ⟨pb, 2, none⟩ = some (.slice (some ⟨sb true, 0, none⟩) n n) ∧ w.cell? ⟨pb, 3, none⟩ = some (.int .i64 nodes) ∧ w.cell? ⟨pb, 4, none⟩ = some (.int .i64 arcs) ∧ pb < w.heap.size := by
  refine ⟨?_, ?_, ?_, ?_, ?_, lt_of_get h.box⟩ <;> simp [World.cell?, h.box]
theorem OvMem.flag (h : OvMem PX w B pb ab sb n bs R nodes arcs) {m : Nat} (hm : m < n) : w.cell? ⟨ab, m, none⟩ = some (.bool (bs[m]?.getD false)) := alive_at h.al (by rw [h.bl]; exact hm)

/-- is it a node? -/
def isN (n : Nat) (x : Int) : Bool := decide (0 ≤ x) && decide (x < (n : Int))
/-- is it alive? -/
def aliveB (n : Nat) (bs : List Bool) (x : Int) : Bool := isN n x && bs[x.toNat]?.getD false

set_option maxHeartbeats 1000000 in
theorem isNode_calls (h : OvMem PX w B pb ab sb n bs R nodes arcs) (x : Int) : Calls Try.prog 40 #[.pointer (some ⟨pb, 0, none⟩), .int .i64 x] w fun e w' => e = .returned (.bool (isN n x)) ∧ w' = w := by
  obtain ⟨c0, c1, c2, c3, c4, cs⟩ := h.cells
  clear h
  unfold isN
  by_cases h0 : 0 ≤ x
  · have h0' : ¬ x < 0 := by omega
    go_enter Try.func40, Try.ntmps40
    go_wp2
    go_ret
    exact ⟨rfl, rfl⟩
  · have h0' : x < 0 := by omega
    go_enter Try.func40, Try.ntmps40
    go_wp2
    go_ret
    exact ⟨by rw [decide_eq_false (show ¬ 0 ≤ x by omega)]; rfl, rfl⟩
set_option maxHeartbeats 1000000 in
theorem alive_calls (h : OvMem PX w B pb ab sb n bs R nodes arcs) (x : Int) : Calls Try.prog 28 #[.pointer (some ⟨pb, 0, none⟩), .int .i64 x] w fun e w' => e = .returned (.bool (aliveB n bs x)) ∧ w' = w := by
  obtain ⟨c0, c1, c2, c3, c4, cs⟩ := h.cells
  have HN : Hid (type_of% (isNode_calls h x)) := isNode_calls h x
  unfold aliveB
  cases hx : isN n x with
  | true =>
    rw [hx] at HN
    obtain ⟨m, rfl⟩ : ∃ m : Nat, x = (m : Int) := ⟨x.toNat, by simp [isN] at hx; omega⟩
    have hm : m < n := by simp [isN] at hx; omega
    have c5 := h.flag hm
    have l1 : ab < w.heap.size := lt_of_get h.al
    rw [Int.toNat_natCast]
    clear h hx
    go_enter Try.func28, Try.ntmps28
    go_wp2_with fail
    refine HN.out.mono ?_
    rintro e w1 ⟨rfl, hw1⟩
    subst hw1
    go_wp2
    go_ret
    exact ⟨by simp, rfl⟩
  | false =>
    rw [hx] at HN
    clear h hx
    go_enter Try.func28, Try.ntmps28
    go_wp2_with fail
    refine HN.out.mono ?_
    rintro e w1 ⟨rfl, hw1⟩
    subst hw1
    go_wp2
    go_ret
    exact ⟨by simp, rfl⟩
/-- has it gone? -/
def goneB (n : Nat) (bs : List Bool) (x : Int) : Bool := isN n x && !(bs[x.toNat]?.getD false)
theorem olen_calls (h : OvMem PX w B pb ab sb n bs R nodes arcs) : Calls Try.prog 97 #[.pointer (some ⟨pb, 0, none⟩)] w fun e w' => e = .returned (.int .i64 nodes) ∧ w' = w := by
  obtain ⟨c0, c1, c2, c3, c4, cs⟩ := h.cells
  clear h
  go_enter Try.func97, Try.ntmps97
  go_wp2
  go_ret
  exact ⟨rfl, rfl⟩
end
end Go.Proofs.Ytcfpkbmeblfhoaa
