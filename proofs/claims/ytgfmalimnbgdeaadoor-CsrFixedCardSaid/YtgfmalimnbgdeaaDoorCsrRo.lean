/- csr.Row at right arrays; viaductref04.Few; where a row leads. -/
import Derived.Test.YtgfmalimnbgdeaaDoorCsrGr
import Derived.Test.YtgfmalimnbgdeaaDoorCsrFi
import Derived.Test.YtgfmalimnbgdeaaDoorDocCheck
namespace Go.Proofs.YtgfmalimnbgdeaaDoor
open Go.RowKit Go.Extern

attribute [local go_sem] Oper.semAt_some

theorem own_base {w : World} {B B' n : Nat} {v : Value} {xs : List Value} (h : w.ownsRow B' 63 3 v n xs) (hb : B ≤ B') : w.ownsRow B 63 3 v n xs := by
  obtain ⟨h1, h2⟩ := h
  refine ⟨h1, ?_⟩
  rcases h2 with h2 | ⟨g, cap, cur, e, hg, r⟩
  · exact Or.inl h2
  · exact Or.inr ⟨g, cap, cur, e, by omega, r⟩
/-- the last arc of a list that leads to x: its weight, and whether there is one. -/
def lk (x : Int) (l : List (Int × Int × Int)) : Int × Bool := l.foldl (fun acc a => if a.2.1 = x then (a.2.2, true) else acc) (0, false)
theorem lk_snoc (x : Int) (l : List (Int × Int × Int)) (a : Int × Int × Int) : lk x (l ++ [a]) = if a.2.1 = x then (a.2.2, true) else lk x l := by
  unfold lk
  rw [List.foldl_append]
  rfl
theorem lk_cases (x : Int) (l : List (Int × Int × Int)) : (lk x l = (0, false) ∧ ∀ a ∈ l, a.2.1 ≠ x) ∨ (∃ a ∈ l, a.2.1 = x ∧ lk x l = (a.2.2, true)) := by
  have h : ∀ (r : List (Int × Int × Int)) (n : Nat), n = r.length → (lk x r = (0, false) ∧ ∀ a ∈ r, a.2.1 ≠ x) ∨ (∃ a ∈ r, a.2.1 = x ∧ lk x r = (a.2.2, true)) := by
    intro r n
    induction n generalizing r with
    | zero =>
      intro hn
      have : r = [] := List.eq_nil_of_length_eq_zero hn.symm
      subst this
      exact Or.inl ⟨rfl, fun a ha => by cases ha⟩
    | succ n ih =>
      intro hn
      have hne : r ≠ [] := fun e => by rw [e] at hn; cases hn
      obtain ⟨q, a, rfl⟩ : ∃ q a, r = q ++ [a] := ⟨r.dropLast, r.getLast hne, (List.dropLast_concat_getLast hne).symm⟩
      have hq : n = q.length := by rw [List.length_append] at hn; simpa using hn
      rw [lk_snoc]
      by_cases e : a.2.1 = x
      · rw [if_pos e]
        exact Or.inr ⟨a, by simp, e, rfl⟩
      · rw [if_neg e]
        rcases ih q hq with ⟨h1, h2⟩ | ⟨b, hb, h1, h2⟩
        · refine Or.inl ⟨h1, fun c hc => ?_⟩
          rcases List.mem_append.1 hc with hc | hc
          · exact h2 c hc
          · rw [List.mem_singleton] at hc
            subst hc
            exact e
        · exact Or.inr ⟨b, List.mem_append.2 (Or.inl hb), h1, h2⟩
  exact h l l.length rfl
/-- a node's row: its arcs. -/
def theRow (zs : List (Int × Int × Int)) (v : Nat) : List (Int × Int × Int) := rowOf zs v (firstAt zs (v + 1))
theorem Fine.mem_row {n : Nat} {zs : List (Int × Int × Int)} (h : Fine n zs) (v : Nat) (a : Int × Int × Int) : a ∈ theRow zs v ↔ a ∈ zs ∧ a.1 = (v : Int) := by
  unfold theRow rowOf
  constructor
  · intro ha
    obtain ⟨j, hj⟩ := List.getElem?_of_mem ha
    rw [List.getElem?_drop, List.getElem?_take] at hj
    split at hj
    · rename_i hlt
      exact ⟨List.mem_of_getElem? hj, h.row hj (by omega) hlt⟩
    · cases hj
  · rintro ⟨ha, hv⟩
    obtain ⟨i, hi⟩ := List.getElem?_of_mem ha
    obtain ⟨h1, h2⟩ := h.inRow hi hv
    refine List.mem_of_getElem? (i := i - firstAt zs v) ?_
    rw [List.getElem?_drop, List.getElem?_take, show firstAt zs v + (i - firstAt zs v) = i by omega, if_pos h2]
    exact hi
/-- what Find answers is what the row says. -/
theorem Fine.find_lk {n : Nat} {zs : List (Int × Int × Int)} (h : Fine n zs) {v x : Nat} (hv : v < n) (hx : x < n) : (lk (x : Int) (theRow zs v) = (0, false) ∧ FindIs n zs v x 0 16) ∨ (∃ r, lk (x : Int) (theRow zs v) = (r, true) ∧ FindIs n zs v x r 0) := by
  have hn : ((0 : Int) ≤ (v : Int) ∧ (v : Int) < (n : Int)) ∧ (0 : Int) ≤ (x : Int) ∧ (x : Int) < (n : Int) := by omega
  rcases lk_cases (x : Int) (theRow zs v) with ⟨h1, h2⟩ | ⟨a, ha, h1, h2⟩
  · refine Or.inl ⟨h1, Or.inr ⟨hn, Or.inr ⟨rfl, rfl, fun a ha hh => ?_⟩⟩⟩
    exact h2 a ((h.mem_row v a).2 ⟨ha, hh.1⟩) hh.2
  · refine Or.inr ⟨a.2.2, h2, Or.inr ⟨hn, Or.inl ⟨rfl, ?_⟩⟩⟩
    obtain ⟨m1, m2⟩ := (h.mem_row v a).1 ha
    obtain ⟨a0, a1, a2⟩ := a
    simp only at m2 h1
    subst m2 h1
    exact m1

set_option maxRecDepth 100000 in
set_option maxHeartbeats 4000000 in
theorem row_good (n : Nat) (zs : List (Int × Int × Int)) (fo uo wo : Option Addr) (fc tc wc : Nat) (w : World) (hz : Fine n zs) (h : CsrIn w n zs fo uo wo fc tc wc) (v : Nat) (hv : v < n) :
    Calls Tryd.prog 22 #[.agg #[.slice fo (n + 1) fc, .slice uo zs.length tc, .slice wo zs.length wc], .int .i64 v] w fun e w' => ∃ lo lc, e = .returned (.tuple #[.slice lo (theRow zs v).length lc, .nilIface]) ∧ w'.ownsRow w.heap.size 63 3 (.slice lo (theRow zs v).length lc) (theRow zs v).length (flatC (theRow zs v)) ∧ Below w.heap.size w w' := by
  obtain ⟨W0, hW0⟩ : ∃ W0, (w.alloc (.cells #[.slice fo (n + 1) fc, .slice uo zs.length tc, .slice wo zs.length wc] 29)).alloc (.cells #[.int .i64 v] 3) = W0 := ⟨_, rfl⟩
  have HW0 : Hid ((w.alloc (.cells #[.slice fo (n + 1) fc, .slice uo zs.length tc, .slice wo zs.length wc] 29)).alloc (.cells #[.int .i64 v] 3) = W0) := hW0
  have hB0 : Below w.heap.size w W0 := by rw [← hW0]; exact ((Below.refl _ w).alloc (Nat.le_refl _) _).alloc (by simp) _
  have k1 : W0.heap[w.heap.size]? = some (.cells #[.slice fo (n + 1) fc, .slice uo zs.length tc, .slice wo zs.length wc] 29) := by rw [← hW0, Below.heap_alloc _ _ _ (by simp)]; exact heap_new _ _
  have k2 : W0.heap[w.heap.size + 1]? = some (.cells #[.int .i64 v] 3) := by
    have h := heap_new (w.alloc (.cells #[.slice fo (n + 1) fc, .slice uo zs.length tc, .slice wo zs.length wc] 29)) (.cells #[.int .i64 v] 3)
    rw [hW0] at h
    simpa using h
  have hV : HasInts W0 (.slice (some ⟨w.heap.size + 1, 0, none⟩) [(v : Int)].length 1) [(v : Int)] := by
    refine ⟨_, _, rfl, fun j a hj => ⟨_, 0, rfl, lt_of_get k2, ?_⟩⟩
    rcases j with _ | j
    · cases hj; simp [World.cell?, k2]
    · cases hj
  have HCN : Hid (Calls Tryd.prog 47 #[.agg #[.slice fo (n + 1) fc, .slice uo zs.length tc, .slice wo zs.length wc], .slice (some ⟨w.heap.size + 1, 0, none⟩) 1 1] W0 fun e w' => e = .returned (numV 0) ∧ Below W0.heap.size W0 w') := checkNodes_good n zs fo uo wo fc tc wc W0 hz (h.keep hB0) _ 1 [(v : Int)] hV (by simp) 0 (Or.inl ⟨rfl, fun x hx => by simp at hx; subst hx; omega⟩)
  have HK : Hid (∀ wx, Below W0.heap.size W0 wx → (wx.cell? ⟨w.heap.size, 0, none⟩ = some (.slice fo (n + 1) fc) ∧ wx.cell? ⟨w.heap.size, 1, none⟩ = some (.slice uo zs.length tc) ∧ wx.cell? ⟨w.heap.size, 2, none⟩ = some (.slice wo zs.length wc)) ∧ w.heap.size < wx.heap.size ∧ CsrIn wx n zs fo uo wo fc tc wc ∧ Below w.heap.size w wx) := fun wx hx => by
    have g := (hx.block _ (lt_of_get k1)).trans k1
    have hb := hB0.trans (hx.mono hB0.size)
    exact ⟨box3 g, lt_of_get g, h.keep hb, hb⟩
  have HAP : Hid (∀ wx, Below W0.heap.size W0 wx → Calls Tryd.prog 45 #[.agg #[.slice fo (n + 1) fc, .slice uo zs.length tc, .slice wo zs.length wc], .slice none 0 0, .int .i64 v] wx fun e w' => ∃ av, e = .returned av ∧ w'.ownsRow wx.heap.size 63 3 av (theRow zs v).length (flatC (theRow zs v)) ∧ Below wx.heap.size wx w') := fun wx hx =>
    appendRow_good n zs fo uo wo fc tc wc wx wx hz (HK.out wx hx).2.2.1 (Below.refl _ _) none 0 [] (World.ownsRow_nil _ _ _ _) (by simp) v hv
  clear h hW0 hB0 k1 k2 hV hz
  go_enter Tryd.func22, Tryd.ntmps22
  go_wp2_with fail
  rw [HW0.out]
  refine HCN.out.mono ?_
  rintro e w1 ⟨rfl, hb1⟩
  rw [show numV 0 = .nilIface from rfl]
  have HB1 : Hid (Below W0.heap.size W0 w1) := hb1
  obtain ⟨⟨c0, c1, c2⟩, cs, _, _⟩ := HK.out w1 hb1
  clear hb1
  go_wp2_with (go_at_call 45; refine (HAP.out w1 HB1.out).mono ?_; rintro e w2 ⟨av, rfl, hO, hb2⟩; have H2 : Hid (w2.ownsRow w1.heap.size 63 3 av (theRow zs v).length (flatC (theRow zs v)) ∧ Below w1.heap.size w1 w2) := ⟨hO, hb2⟩; clear hO hb2)
  obtain ⟨lo, lc, hav⟩ := rowC_slice H2.out.1
  subst hav
  have HZ : Hid (Below w.heap.size w w1) := (HK.out w1 HB1.out).2.2.2
  go_ret2
  exact ⟨lo, lc, rfl, own_base H2.out.1 HZ.out.size, HZ.out.trans (H2.out.2.mono HZ.out.size)⟩

/-- is a graph right, and has it few nodes and arcs? -/
def fewB (N : Int) (xs : List (Int × Int × Int)) (most : Int) : Bool := decide (graphErr N xs = (0, []) ∧ N ≤ most ∧ xs.length ≤ 2000)

set_option maxRecDepth 100000 in
set_option maxHeartbeats 4000000 in
theorem few_calls (N : Int) (ao : Option Addr) (cap : Nat) (xs : List (Int × Int × Int)) (most : Int) (w : World) (hl : HasArcs w (.slice ao xs.length cap) xs) (hm : xs.length ≤ maxLen) :
    Calls Tryd.prog 27 #[.agg #[.int .i64 N, .slice ao xs.length cap], .int .i64 most] w fun e w' => e = .returned (.bool (fewB N xs most)) ∧ Below w.heap.size w w' := by
  obtain ⟨W0, hW0⟩ : ∃ W0, w.alloc (.cells #[.int .i64 N, .slice ao xs.length cap] 24) = W0 := ⟨_, rfl⟩
  have HW0 : Hid (w.alloc (.cells #[.int .i64 N, .slice ao xs.length cap] 24) = W0) := hW0
  have hB0 : Below w.heap.size w W0 := by rw [← hW0]; exact (Below.refl _ w).alloc (Nat.le_refl _) _
  have k0 : W0.heap[w.heap.size]? = some (.cells #[.int .i64 N, .slice ao xs.length cap] 24) := by rw [← hW0]; exact heap_new _ _
  have HDC : Hid (type_of% (docCheck_calls N ao cap xs W0 (hl.keep hB0) hm)) := docCheck_calls N ao cap xs W0 (hl.keep hB0) hm
  have HK : Hid (∀ wx, Below W0.heap.size W0 wx → wx.cell? ⟨w.heap.size, 0, none⟩ = some (.int .i64 N) ∧ wx.cell? ⟨w.heap.size, 1, none⟩ = some (.slice ao xs.length cap) ∧ w.heap.size < wx.heap.size ∧ Below w.heap.size w wx) := fun wx hx => by
    have g := (hx.block _ (lt_of_get k0)).trans k0
    exact ⟨(cell_two g).1, (cell_two g).2.1, lt_of_get g, hB0.trans (hx.mono hB0.size)⟩
  have HTC : Hid (graphErr N xs = (0, []) ∨ (graphErr N xs ≠ (0, []) ∧ ((graphErr N xs).1 != 0 || decide (0 < (graphErr N xs).2.length)) = true)) := by
    by_cases h : graphErr N xs = (0, [])
    · exact Or.inl h
    · refine Or.inr ⟨h, ?_⟩
      by_cases h1 : (graphErr N xs).1 = 0
      · have h2 : (graphErr N xs).2 ≠ [] := fun e => h (by rw [← h1, ← e])
        have := List.length_pos_iff.2 h2
        simp [this]
      · simp [h1]
  clear hl hW0 hB0 k0
  go_enter Tryd.func27, Tryd.ntmps27
  go_wp2_with fail
  rw [HW0.out]
  refine HDC.out.mono ?_
  rintro e w1 ⟨po, pc, rfl, _, hb1⟩
  have HB1 : Hid (Below W0.heap.size W0 w1) := hb1
  clear hb1
  obtain ⟨c0, c1, cs, _⟩ := HK.out w1 HB1.out
  generalize hE : graphErr N xs = E at *
  obtain ⟨C, ps⟩ := E
  have HE : Hid (graphErr N xs = (C, ps)) := hE
  clear hE
  have HAL : Hid (Below w1.heap.size w1 (w1.alloc (.cells #[.int .i64 C, .slice po ps.length pc] 37))) := (Below.refl _ w1).alloc (Nat.le_refl _) _
  have HBD : Hid (type_of% (bad_calls C po ps.length pc (w1.alloc (.cells #[.int .i64 C, .slice po ps.length pc] 37)))) := bad_calls C po ps.length pc _
  simp only at HTC
  have R1 : Hid (∀ wx, Below (w1.alloc (.cells #[.int .i64 C, .slice po ps.length pc] 37)).heap.size (w1.alloc (.cells #[.int .i64 C, .slice po ps.length pc] 37)) wx → Below W0.heap.size W0 wx) := fun wx h => by
    have h1 := HB1.out.trans (HAL.out.mono HB1.out.size)
    exact h1.trans (h.mono h1.size)
  rcases HTC.out with hgood | ⟨hbad, hbt⟩
  · injection hgood with hC hp
    subst hC
    subst hp
    go_wp2_with fail
    refine HBD.out.mono ?_
    rintro e w2 ⟨rfl, hb2⟩
    have R2 : Hid (Below W0.heap.size W0 w2) := R1.out w2 hb2
    clear hb2 c0 c1 cs
    obtain ⟨c0, c1, cs, hbe⟩ := HK.out w2 R2.out
    have HBE : Hid (Below w.heap.size w w2) := hbe
    rw [show ((0 : Int) != 0 || decide (0 < ([] : List (Int × Int)).length)) = false from rfl]
    clear hbe
    by_cases h1 : N ≤ most
    · by_cases h2 : (xs.length : Int) ≤ 2000
      · have hd : fewB N xs most = true := decide_eq_true ⟨HE.out, h1, by omega⟩
        have HD : Hid (type_of% hd) := hd
        clear hd
        go_wp2
        go_ret
        exact ⟨by rw [HD.out]; first | rfl | (show Ending.returned (Value.bool (decide ((xs.length : Int) ≤ 2000))) = Ending.returned (Value.bool false); rw [decide_eq_false (by omega)]), HBE.out⟩
      · have hd : fewB N xs most = false := decide_eq_false (fun h => h2 (by have := h.2.2; omega))
        have HD : Hid (type_of% hd) := hd
        clear hd
        go_wp2
        go_ret
        exact ⟨by rw [HD.out]; first | rfl | (show Ending.returned (Value.bool (decide ((xs.length : Int) ≤ 2000))) = Ending.returned (Value.bool false); rw [decide_eq_false (by omega)]), HBE.out⟩
    · have hd : fewB N xs most = false := decide_eq_false (fun h => h1 h.2.1)
      have HD : Hid (type_of% hd) := hd
      clear hd
      go_wp2
      go_ret
      exact ⟨by rw [HD.out]; first | rfl | (show Ending.returned (Value.bool (decide ((xs.length : Int) ≤ 2000))) = Ending.returned (Value.bool false); rw [decide_eq_false (by omega)]), HBE.out⟩
  · rw [hbt] at HBD
    have HBAD : Hid ((C, ps) ≠ ((0 : Int), ([] : List (Int × Int)))) := hbad
    clear hbad hbt
    go_wp2_with fail
    refine HBD.out.mono ?_
    rintro e w2 ⟨rfl, hb2⟩
    have R2 : Hid (Below W0.heap.size W0 w2) := R1.out w2 hb2
    clear hb2 c0 c1 cs
    obtain ⟨c0, c1, cs, hbe⟩ := HK.out w2 R2.out
    have HBE : Hid (Below w.heap.size w w2) := hbe
    clear hbe
    have hd : fewB N xs most = false := decide_eq_false (fun h => HBAD.out (HE.out.symm.trans h.1))
    have HD : Hid (type_of% hd) := hd
    clear hd
    go_wp2
    go_ret
    exact ⟨by rw [HD.out]; first | rfl | (show Ending.returned (Value.bool (decide ((xs.length : Int) ≤ 2000))) = Ending.returned (Value.bool false); rw [decide_eq_false (by omega)]), HBE.out⟩
end Go.Proofs.YtgfmalimnbgdeaaDoor
