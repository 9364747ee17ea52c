/- csr.Row at right arrays; where a row leads. -/
import Derived.Test.YtgfmalimnbgdeaaCsrGr
import Derived.Test.YtgfmalimnbgdeaaCsrFi
import Derived.Test.YtgfmalimnbgdeaaDocCheck
namespace Go.Proofs.Ytgfmalimnbgdeaa
open Go.RowKit Go.Extern

attribute [local go_sem] Oper.semAt_some

theorem own_base {w : World} {B B' n : Nat} {v : Value} {xs : List Value} (h : w.ownsRow B' 46 3 v n xs) (hb : B ≤ B') : w.ownsRow B 46 3 v n xs := by
  obtain ⟨h1, h2⟩ := h
  refine ⟨h1, ?_⟩
  rcases h2 with h2 | ⟨g, cap, cur, e, hg, r⟩
  · exact Or.inl h2
  · exact Or.inr ⟨g, cap, cur, e, by omega, r⟩
/-- the last arc of a list that leads to x: its weight, and whether there is one. -/
def lk (x : Int) (l : List (Int × Int × Int)) : Int × Bool := l.foldl (fun acc a => if a.2.1 = x then (a.2.2, true) else acc) (0, false)
theorem lk_snoc (x : Int) (l : List (Int × Int × Int)) (a : Int × Int × Int) : lk x (l ++ [a]) = if a.2.1 = x then (a.2.2, true) else lk x l := by
  unfold lk
  rw [List.foldl_append]
  rfl
theorem lk_cases (x : Int) (l : List (Int × Int × Int)) : (lk x l = (0, false) ∧ ∀ a ∈ l, a.2.1 ≠ x) ∨ (∃ a ∈ l, a.2.1 = x ∧ lk x l = (a.2.2, true)) := by
  have h : ∀ (r : List (Int × Int × Int)) (n : Nat), n = r.length → (lk x r = (0, false) ∧ ∀ a ∈ r, a.2.1 ≠ x) ∨ (∃ a ∈ r, a.2.1 = x ∧ lk x r = (a.2.2, true)) := by
    intro r n
    induction n generalizing r with
    | zero =>
      intro hn
      have : r = [] := List.eq_nil_of_length_eq_zero hn.symm
      subst this
      exact Or.inl ⟨rfl, fun a ha => by cases ha⟩
    | succ n ih =>
      intro hn
      have hne : r ≠ [] := fun e => by rw [e] at hn; cases hn
      obtain ⟨q, a, rfl⟩ : ∃ q a, r = q ++ [a] := ⟨r.dropLast, r.getLast hne, (List.dropLast_concat_getLast hne).symm⟩
      have hq : n = q.length := by rw [List.length_append] at hn; simpa using hn
      rw [lk_snoc]
      by_cases e : a.2.1 = x
      · rw [if_pos e]
        exact Or.inr ⟨a, by simp, e, rfl⟩
      · rw [if_neg e]
        rcases ih q hq with ⟨h1, h2⟩ | ⟨b, hb, h1, h2⟩
        · refine Or.inl ⟨h1, fun c hc => ?_⟩
          rcases List.mem_append.1 hc with hc | hc
          · exact h2 c hc
          · rw [List.mem_singleton] at hc
            subst hc
            exact e
        · exact Or.inr ⟨b, List.mem_append.2 (Or.inl hb), h1, h2⟩
  exact h l l.length rfl
/-- a node's row: its arcs. -/
def theRow (zs : List (Int × Int × Int)) (v : Nat) : List (Int × Int × Int) := rowOf zs v (firstAt zs (v + 1))
theorem Fine.mem_row {n : Nat} {zs : List (Int × Int × Int)} (h : Fine n zs) (v : Nat) (a : Int × Int × Int) : a ∈ theRow zs v ↔ a ∈ zs ∧ a.1 = (v : Int) := by
  unfold theRow rowOf
  constructor
  · intro ha
    obtain ⟨j, hj⟩ := List.getElem?_of_mem ha
    rw [List.getElem?_drop, List.getElem?_take] at hj
    split at hj
    · rename_i hlt
      exact ⟨List.mem_of_getElem? hj, h.row hj (by omega) hlt⟩
    · cases hj
  · rintro ⟨ha, hv⟩
    obtain ⟨i, hi⟩ := List.getElem?_of_mem ha
    obtain ⟨h1, h2⟩ := h.inRow hi hv
    refine List.mem_of_getElem? (i := i - firstAt zs v) ?_
    rw [List.getElem?_drop, List.getElem?_take, show firstAt zs v + (i - firstAt zs v) = i by omega, if_pos h2]
    exact hi
/-- what Find answers is what the row says. -/
theorem Fine.find_lk {n : Nat} {zs : List (Int × Int × Int)} (h : Fine n zs) {v x : Nat} (hv : v < n) (hx : x < n) : (lk (x : Int) (theRow zs v) = (0, false) ∧ FindIs n zs v x 0 16) ∨ (∃ r, lk (x : Int) (theRow zs v) = (r, true) ∧ FindIs n zs v x r 0) := by
  have hn : ((0 : Int) ≤ (v : Int) ∧ (v : Int) < (n : Int)) ∧ (0 : Int) ≤ (x : Int) ∧ (x : Int) < (n : Int) := by omega
  rcases lk_cases (x : Int) (theRow zs v) with ⟨h1, h2⟩ | ⟨a, ha, h1, h2⟩
  · refine Or.inl ⟨h1, Or.inr ⟨hn, Or.inr ⟨rfl, rfl, fun a ha hh => ?_⟩⟩⟩
    exact h2 a ((h.mem_row v a).2 ⟨ha, hh.1⟩) hh.2
  · refine Or.inr ⟨a.2.2, h2, Or.inr ⟨hn, Or.inl ⟨rfl, ?_⟩⟩⟩
    obtain ⟨m1, m2⟩ := (h.mem_row v a).1 ha
    obtain ⟨a0, a1, a2⟩ := a
    simp only at m2 h1
    subst m2 h1
    exact m1

set_option maxRecDepth 100000 in
set_option maxHeartbeats 4000000 in
theorem row_good (n : Nat) (zs : List (Int × Int × Int)) (fo uo wo : Option Addr) (fc tc wc : Nat) (w : World) (hz : Fine n zs) (h : CsrIn w n zs fo uo wo fc tc wc) (v : Nat) (hv : v < n) :
    Calls Try.prog 15 #[.agg #[.slice fo (n + 1) fc, .slice uo zs.length tc, .slice wo zs.length wc], .int .i64 v] w fun e w' => ∃ lo lc, e = .returned (.tuple #[.slice lo (theRow zs v).length lc, .nilIface]) ∧ w'.ownsRow w.heap.size 46 3 (.slice lo (theRow zs v).length lc) (theRow zs v).length (flatC (theRow zs v)) ∧ Below w.heap.size w w' := by
  obtain ⟨W0, hW0⟩ : ∃ W0, (w.alloc (.cells #[.slice fo (n + 1) fc, .slice uo zs.length tc, .slice wo zs.length wc] 28)).alloc (.cells #[.int .i64 v] 3) = W0 := ⟨_, rfl⟩
  have HW0 : Hid ((w.alloc (.cells #[.slice fo (n + 1) fc, .slice uo zs.length tc, .slice wo zs.length wc] 28)).alloc (.cells #[.int .i64 v] 3) = W0) := hW0
  have hB0 : Below w.heap.size w W0 := by rw [← hW0]; exact ((Below.refl _ w).alloc (Nat.le_refl _) _).alloc (by simp) _
  have k1 : W0.heap[w.heap.size]? = some (.cells #[.slice fo (n + 1) fc, .slice uo zs.length tc, .slice wo zs.length wc] 28) := by rw [← hW0, Below.heap_alloc _ _ _ (by simp)]; exact heap_new _ _
  have k2 : W0.heap[w.heap.size + 1]? = some (.cells #[.int .i64 v] 3) := by
    have h := heap_new (w.alloc (.cells #[.slice fo (n + 1) fc, .slice uo zs.length tc, .slice wo zs.length wc] 28)) (.cells #[.int .i64 v] 3)
    rw [hW0] at h
    simpa using h
  have hV : HasInts W0 (.slice (some ⟨w.heap.size + 1, 0, none⟩) [(v : Int)].length 1) [(v : Int)] := by
    refine ⟨_, _, rfl, fun j a hj => ⟨_, 0, rfl, lt_of_get k2, ?_⟩⟩
    rcases j with _ | j
    · cases hj; simp [World.cell?, k2]
    · cases hj
  have HCN : Hid (Calls Try.prog 38 #[.agg #[.slice fo (n + 1) fc, .slice uo zs.length tc, .slice wo zs.length wc], .slice (some ⟨w.heap.size + 1, 0, none⟩) 1 1] W0 fun e w' => e = .returned (numV 0) ∧ Below W0.heap.size W0 w') := checkNodes_good n zs fo uo wo fc tc wc W0 hz (h.keep hB0) _ 1 [(v : Int)] hV (by simp) 0 (Or.inl ⟨rfl, fun x hx => by simp at hx; subst hx; omega⟩)
  have HK : Hid (∀ wx, Below W0.heap.size W0 wx → (wx.cell? ⟨w.heap.size, 0, none⟩ = some (.slice fo (n + 1) fc) ∧ wx.cell? ⟨w.heap.size, 1, none⟩ = some (.slice uo zs.length tc) ∧ wx.cell? ⟨w.heap.size, 2, none⟩ = some (.slice wo zs.length wc)) ∧ w.heap.size < wx.heap.size ∧ CsrIn wx n zs fo uo wo fc tc wc ∧ Below w.heap.size w wx) := fun wx hx => by
    have g := (hx.block _ (lt_of_get k1)).trans k1
    have hb := hB0.trans (hx.mono hB0.size)
    exact ⟨box3 g, lt_of_get g, h.keep hb, hb⟩
  have HAP : Hid (∀ wx, Below W0.heap.size W0 wx → Calls Try.prog 33 #[.agg #[.slice fo (n + 1) fc, .slice uo zs.length tc, .slice wo zs.length wc], .slice none 0 0, .int .i64 v] wx fun e w' => ∃ av, e = .returned av ∧ w'.ownsRow wx.heap.size 46 3 av (theRow zs v).length (flatC (theRow zs v)) ∧ Below wx.heap.size wx w') := fun wx hx =>
    appendRow_good n zs fo uo wo fc tc wc wx wx hz (HK.out wx hx).2.2.1 (Below.refl _ _) none 0 [] (World.ownsRow_nil _ _ _ _) (by simp) v hv
  clear h hW0 hB0 k1 k2 hV hz
  go_enter Try.func15, Try.ntmps15
  go_wp2_with fail
  rw [HW0.out]
  refine HCN.out.mono ?_
  rintro e w1 ⟨rfl, hb1⟩
  rw [show numV 0 = .nilIface from rfl]
  have HB1 : Hid (Below W0.heap.size W0 w1) := hb1
  obtain ⟨⟨c0, c1, c2⟩, cs, _, _⟩ := HK.out w1 hb1
  clear hb1
  go_wp2_with (go_at_call 33; refine (HAP.out w1 HB1.out).mono ?_; rintro e w2 ⟨av, rfl, hO, hb2⟩; have H2 : Hid (w2.ownsRow w1.heap.size 46 3 av (theRow zs v).length (flatC (theRow zs v)) ∧ Below w1.heap.size w1 w2) := ⟨hO, hb2⟩; clear hO hb2)
  obtain ⟨lo, lc, hav⟩ := rowC_slice H2.out.1
  subst hav
  have HZ : Hid (Below w.heap.size w w1) := (HK.out w1 HB1.out).2.2.2
  go_ret2
  exact ⟨lo, lc, rfl, own_base H2.out.1 HZ.out.size, HZ.out.trans (H2.out.2.mono HZ.out.size)⟩

end Go.Proofs.Ytgfmalimnbgdeaa
