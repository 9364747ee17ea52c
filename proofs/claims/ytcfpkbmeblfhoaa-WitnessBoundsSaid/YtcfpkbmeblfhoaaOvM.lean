/- a row's set. -/
import Derived.Test.YtcfpkbmeblfhoaaOvL
import Derived.Deep.RegionHeld3
namespace Go.Proofs.Ytcfpkbmeblfhoaa
open Go.RowKit Go.Extern Go.Sort

attribute [local go_sem] Oper.semAt_some

/-- a row with a half put in its place. -/
def setH (l : List H3) (h : H3) : List H3 := if hasH l h.1 then l.set (lowH l h.1) h else insH l (lowH l h.1) h
/-- what a row's method leaves: its own two cells and its halves may change. -/
structure Moved (w w' : World) (rb ro : Nat) (cur : Array Value) (T : TypeId) (v v' : Value) (gn' : Nat) : Prop where
  os : w'.os = w.os
  tape : w'.tape = w.tape
  output : w'.output = w.output
  size : w.heap.size ≤ w'.heap.size
  block : ∀ k, k < w.heap.size → k ≠ rb → v.ownBlock ≠ some k → w'.heap[k]? = w.heap[k]?
  row : w'.heap[rb]? = some (.cells ((cur.setIfInBounds ro v').setIfInBounds (ro + 1) (.int .i64 gn')) T (0, 0))
  own : ∀ k, v'.ownBlock = some k → v.ownBlock = some k ∨ w.heap.size ≤ k
theorem lowH_le (l : List H3) (x : Int) : lowH l x ≤ l.length := List.countP_le_length

theorem hsc_same {w : World} {b o : Nat} {c : Array Value} {t : TypeId} (v : Value) (h : w.heap[b]? = some (.cells c t (0, 0))) : (w.setCell ⟨b, o, none⟩ v).heap[b]? = some (.cells (c.setIfInBounds o v) t (0, 0)) := by
  simp only [World.setCell, Array.getElem?_modify]
  simp [h]
theorem set_self {c : Array Value} {o : Nat} {v : Value} (h : c[o]? = some v) : c.setIfInBounds o v = c := by
  apply Array.ext_getElem?
  intro i
  rw [Array.getElem?_setIfInBounds]
  split
  · subst_vars
    rw [h]
    rw [if_pos (Array.getElem?_eq_some_iff.1 h).1]
  · rfl
theorem own_set {w : World} {B n rb ro : Nat} {v : Value} {xs : List Value} (h : w.ownsRow B 57 3 v n xs) (hne : v.ownBlock ≠ some rb) (x : Value) : (w.setCell ⟨rb, ro, none⟩ x).ownsRow B 57 3 v n xs := by
  obtain ⟨h1, h2⟩ := h
  refine ⟨h1, ?_⟩
  rcases h2 with h2 | ⟨g, cap, cur, rfl, hb, hh, r⟩
  · exact Or.inl h2
  · exact Or.inr ⟨g, cap, cur, rfl, hb, (heap_setCell_other _ _ _ _ (fun e => hne (by rw [show g = rb from e]; rfl))).trans hh, r⟩
theorem moved_of {w W1 w2 : World} {rb ro gn : Nat} {cur : Array Value} {T : TypeId} {v v' : Value} (hb : Below w.heap.size w W1) (hgr : W1.grownBy w2 v.ownBlock) (hrow : w.heap[rb]? = some (.cells cur T (0, 0))) (hgn : cur[ro + 1]? = some (.int .i64 gn)) (hne : v.ownBlock ≠ some rb) (hown : ∀ k, v'.ownBlock = some k → v.ownBlock = some k ∨ W1.heap.size ≤ k) :
    Moved w (w2.setCell ⟨rb, ro, none⟩ v') rb ro cur T v v' gn := by
  have hlt := lt_of_get hrow
  have hs := hb.size
  refine ⟨hgr.os.trans hb.os, hgr.tape.trans hb.tape, hgr.output.trans hb.output, by have := hgr.size; simp; omega, fun k hk h1 h2 => ?_, ?_, fun k hk => (hown k hk).imp id (fun h => by omega)⟩
  · rw [heap_setCell_other _ _ _ _ h1, hgr.block k (by omega) (fun e => h2 e.symm), hb.block k hk]
  · have h2 : w2.heap[rb]? = some (.cells cur T (0, 0)) := by rw [hgr.block rb (by omega) (fun e => hne e.symm), hb.block rb hlt]; exact hrow
    rw [hsc_same _ h2]
    rw [set_self (c := cur.setIfInBounds ro v') (o := ro + 1)]
    rw [Array.getElem?_setIfInBounds, if_neg (by omega)]
    exact hgn

theorem hasH_low {l : List H3} {x : Int} (hr : RiseH l) (h : hasH l x = true) : lowH l x < l.length ∧ ∀ a, l[lowH l x]? = some a → a.1 = x := by
  unfold hasH at h
  obtain ⟨a, ha, hax⟩ := List.any_eq_true.1 h
  obtain ⟨i, hi⟩ := List.getElem?_of_mem ha
  have hx : a.1 = x := by simpa using hax
  have hil := (List.getElem?_eq_some_iff.1 hi).1
  have e : lowH l x = i := countP_at _ l i (by omega) (fun t b ht hb => decide_eq_true (by have := hr.lt hb hi ht; omega)) (fun t b ht hb => decide_eq_false (by
    rcases Nat.lt_or_ge i t with h | h
    · have := hr.lt hi hb h
      omega
    · obtain rfl : t = i := by omega
      rw [hi] at hb
      cases hb
      omega))
  rw [e]
  refine ⟨hil, fun b hb => ?_⟩
  rw [hi] at hb
  cases hb
  exact hx

theorem getElem?_bang (c : Array Value) (i : Nat) (h : i < c.size) : c[i]? = some c[i]! := by
  rw [Array.getElem?_eq_getElem h, getElem!_pos c i h]
theorem flatH_cons (b : H3) (r : List H3) : flatH (b :: r) = .int .i64 b.1 :: .int .u64 b.2.1 :: .int .i64 b.2.2 :: flatH r := by simp [flatH]
theorem flatH_set (l : List H3) (i : Nat) (a : H3) : flatH (l.set i a) = (((flatH l).set (i * 3) (.int .i64 a.1)).set (i * 3 + 1) (.int .u64 a.2.1)).set (i * 3 + 2) (.int .i64 a.2.2) := by
  induction l generalizing i with
  | nil => simp [flatH]
  | cons b r ih =>
    cases i with
    | zero => simp [flatH_cons]
    | succ i =>
      rw [List.set_cons_succ, flatH_cons, flatH_cons, ih i, show (i + 1) * 3 = i * 3 + 1 + 1 + 1 by omega, show i * 3 + 1 + 1 + 1 + 2 = i * 3 + 2 + 1 + 1 + 1 by omega]
      simp only [List.set_cons_succ]

end Go.Proofs.Ytcfpkbmeblfhoaa
