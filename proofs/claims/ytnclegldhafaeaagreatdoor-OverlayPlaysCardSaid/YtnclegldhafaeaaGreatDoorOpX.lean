/- OverlayPlays: the reference's list of arcs against the overlay's rows. viaductref11's Lives, Len, Weight, DocPut. viaductref11's Put and Remove. viaductref11's Remove. the program's overlay and the reference's, side by side in memory. the law's step: what its walks lean on. -/
import Derived.Test.YtnclegldhafaeaaGreatDoorOyX
import Derived.Test.YtnclegldhafaeaaGreatDoorDocCheck
import Derived.Laws.OwnMore
import Derived.Test.YtnclegldhafaeaaGreatDoorOnX
namespace Go.Proofs.YtnclegldhafaeaaGreatDoor
open Go.RowKit Go.Extern Go.Sort

/-- the list of arcs and the rows tell the same. -/
structure Tied (n : Nat) (bs : List Bool) (R : Bool → Nat → Rw) (zs : List A4) : Prop where
  ends : ∀ a ∈ zs, ∃ u v : Nat, a.1 = (u : Int) ∧ a.2.1 = (v : Int) ∧ u < n ∧ v < n ∧ liv bs u = true ∧ liv bs v = true ∧ u ≠ v
  one : zs.Pairwise fun a b => ¬ (a.1 = b.1 ∧ a.2.1 = b.2.1)
  row : ∀ s u, u < n → ∀ h, h ∈ rowL bs R s u ↔ h ∈ sideA s zs (u : Int)
theorem sideA_mem_false {zs : List A4} {v : Int} {h : H3} : h ∈ sideA false zs v ↔ (v, h.1, h.2.1, h.2.2) ∈ zs := by
  unfold sideA
  simp only [Bool.false_eq_true, if_false, List.mem_map, List.mem_filter, beq_iff_eq]
  constructor
  · rintro ⟨a, ⟨h1, h2⟩, rfl⟩
    rw [← h2]; exact h1
  · intro h1
    exact ⟨_, ⟨h1, rfl⟩, rfl⟩
theorem sideA_mem_true {zs : List A4} {v : Int} {h : H3} : h ∈ sideA true zs v ↔ (h.1, v, h.2.1, h.2.2) ∈ zs := by
  unfold sideA
  simp only [if_true, List.mem_map, List.mem_filter, beq_iff_eq]
  constructor
  · rintro ⟨a, ⟨h1, h2⟩, rfl⟩
    rw [← h2]; exact h1
  · intro h1
    exact ⟨_, ⟨h1, rfl⟩, rfl⟩
theorem sideA_pw {zs : List A4} (ho : zs.Pairwise fun a b => ¬ (a.1 = b.1 ∧ a.2.1 = b.2.1)) (s : Bool) (v : Int) : (sideA s zs v).Pairwise fun a b => a.1 ≠ b.1 := by
  unfold sideA
  rw [List.pairwise_map, List.pairwise_filter]
  refine ho.imp ?_
  intro a b hab ha hb
  cases s
  · simp at ha hb ⊢
    intro e
    exact hab ⟨by omega, e⟩
  · simp at ha hb ⊢
    intro e
    exact hab ⟨e, by omega⟩
theorem riseH_ext : ∀ {l m : List H3}, RiseH l → RiseH m → (∀ h, h ∈ l ↔ h ∈ m) → l = m
  | [], m, _, _, h => by
    cases m with
    | nil => rfl
    | cons b t => exact absurd ((h b).2 (by simp)) (by simp)
  | a :: r, m, hl, hm, h => by
    obtain ⟨l1, l2⟩ := List.pairwise_cons.1 hl
    cases m with
    | nil => exact absurd ((h a).1 (by simp)) (by simp)
    | cons b t =>
      obtain ⟨m1, m2⟩ := List.pairwise_cons.1 hm
      have hab : a = b := by
        rcases List.mem_cons.1 ((h a).1 (by simp)) with e | e
        · exact e
        · rcases List.mem_cons.1 ((h b).2 (by simp)) with e2 | e2
          · exact e2.symm
          · have := m1 a e; have := l1 b e2; omega
      subst hab
      have : r = t := riseH_ext l2 m2 (fun x => by
        constructor
        · intro hx
          rcases List.mem_cons.1 ((h x).1 (by simp [hx])) with e | e
          · have := l1 x hx; rw [e] at this; omega
          · exact e
        · intro hx
          rcases List.mem_cons.1 ((h x).2 (by simp [hx])) with e | e
          · have := m1 x hx; rw [e] at this; omega
          · exact e)
      rw [this]
section
variable {n : Nat} {bs : List Bool} {R : Bool → Nat → Rw} {zs : List A4}
theorem Tied.rows (h : Tied n bs R zs) (hi : OvInv n bs R) (s : Bool) {u : Nat} (hu : u < n) : sortA (sideA s zs (u : Int)) = rowL bs R s u :=
  riseH_ext (sortA_rise (sideA_pw h.one s u)) (rowL_rise hi s hu) (fun x => (sortA_mem _).trans (h.row s u hu x).symm)
/-- what a node's list is, whatever the node. -/
def outM (n : Nat) (bs : List Bool) (R : Bool → Nat → Rw) (s : Bool) (x : Int) : List H3 := if aliveB n bs x then rowL bs R s x.toNat else []
theorem Tied.outM (h : Tied n bs R zs) (hi : OvInv n bs R) (s : Bool) (x : Int) : sortA (sideA s zs x) = outM n bs R s x := by
  unfold Go.Proofs.YtnclegldhafaeaaGreatDoor.outM
  cases hx : aliveB n bs x with
  | true =>
    obtain ⟨u, rfl, hu, _⟩ := aliveB_iff.1 hx
    simpa using h.rows hi s hu
  | false =>
    have e : sideA s zs x = [] := by
      rw [List.eq_nil_iff_forall_not_mem]
      intro y hy
      have hx2 : ¬ aliveB n bs x = true := by rw [hx]; simp
      apply hx2
      cases s with
      | false =>
        obtain ⟨u, v, e1, _, hu, _, lu, _⟩ := h.ends _ (sideA_mem_false.1 hy)
        exact aliveB_iff.2 ⟨u, e1, hu, lu⟩
      | true =>
        obtain ⟨u, v, _, e1, _, hu, _, lu, _⟩ := h.ends _ (sideA_mem_true.1 hy)
        exact aliveB_iff.2 ⟨v, e1, hu, lu⟩
    rw [e]
    rfl
/-- the arc between two nodes. -/
def findA (zs : List A4) (x y : Int) : Option A4 := zs.find? fun a => a.1 == x && a.2.1 == y
theorem findA_some {x y : Int} {a : A4} (h : findA zs x y = some a) : a ∈ zs ∧ a.1 = x ∧ a.2.1 = y := by
  have h1 := List.find?_some h
  simp at h1
  exact ⟨List.mem_of_find?_eq_some h, h1.1, h1.2⟩
theorem findA_none {x y : Int} (h : findA zs x y = none) {a : A4} (ha : a ∈ zs) : ¬ (a.1 = x ∧ a.2.1 = y) := by
  have h1 := List.find?_eq_none.1 h a ha
  simpa using h1
theorem Tied.weight (h : Tied n bs R zs) (hi : OvInv n bs R) (x y : Int) : weightM n bs R x y = (findA zs x y).map (·.2.2.1) := by
  cases hf : findA zs x y with
  | some a =>
    obtain ⟨ha, rfl, rfl⟩ := findA_some hf
    obtain ⟨u, v, e1, e2, hu, hv, lu, lv, _⟩ := h.ends a ha
    have h1 : (a.2.1, a.2.2.1, a.2.2.2) ∈ rowL bs R false u := (h.row false u hu _).2 (sideA_mem_false.2 (by rw [← e1]; exact ha))
    rw [e1]
    exact rowL_weight hi hu h1
  | none =>
    show _ = none
    unfold weightM
    cases hx : aliveB n bs x with
    | false => rfl
    | true =>
      cases hy : aliveB n bs y with
      | false => rfl
      | true =>
        obtain ⟨u, rfl, hu, lu⟩ := aliveB_iff.1 hx
        obtain ⟨v, rfl, hv, lv⟩ := aliveB_iff.1 hy
        rw [Int.toNat_natCast]
        cases hh : hasH (R false u).2.1 (v : Int) with
        | false => rfl
        | true =>
          obtain ⟨a, ha, e⟩ := hasH_mem.1 hh
          have h2 : a ∈ rowL bs R false u := livH_mem.2 ⟨ha, by rw [e, Int.toNat_natCast]; exact lv⟩
          exact absurd ⟨rfl, e⟩ (findA_none hf (sideA_mem_false.1 ((h.row false u hu a).1 h2)))
theorem tied_new {zs : List (Int × Int × Int)} (hr : RiseA zs) (hs : ∀ a ∈ zs, a.1 ≠ a.2.1) (hn : ∀ a ∈ zs, (0 ≤ a.1 ∧ a.1 < (n : Int)) ∧ (0 ≤ a.2.1 ∧ a.2.1 < (n : Int))) (hR : ∀ s u, u < n → (R s u).2 = (sideL s zs u, 0)) : Tied n (List.replicate n true) R (zs.map asA4) := by
  have hl : ∀ m : Nat, m < n → liv (List.replicate n true) m = true := fun m hm => by unfold liv; simp [hm]
  refine ⟨fun a ha => ?_, ?_, fun s u hu h => ?_⟩
  · obtain ⟨b, hb, rfl⟩ := List.mem_map.1 ha
    obtain ⟨⟨h1, h2⟩, h3, h4⟩ := hn b hb
    have := hs b hb
    exact ⟨b.1.toNat, b.2.1.toNat, by show b.1 = _; omega, by show b.2.1 = _; omega, by omega, by omega, hl _ (by omega), hl _ (by omega), by omega⟩
  · rw [List.pairwise_map]
    refine List.Pairwise.imp ?_ (show zs.Pairwise lessA from hr)
    intro a b hab
    unfold lessA at hab
    simp only [asA4]
    omega
  · rw [sideA_sideL]
    unfold rowL
    rw [livH_mem, hR s u hu]
    refine ⟨fun h => h.1, fun h1 => ⟨h1, ?_⟩⟩
    cases s with
    | false =>
      have h2 := hn _ (sideL_mem_false.1 h1).1
      simp only at h2
      exact hl _ (by omega)
    | true =>
      have h2 := hn _ (sideL_mem_true.1 h1).1
      simp only at h2
      exact hl _ (by omega)
theorem sameB_iff (x a : A4) : (!(x.1 == a.1 && x.2.1 == a.2.1)) = true ↔ ¬ (x.1 = a.1 ∧ x.2.1 = a.2.1) := by
  by_cases h1 : x.1 = a.1 <;> by_cases h2 : x.2.1 = a.2.1 <;> simp [h1, h2]
/-- what a Put leaves. -/
def putZ (zs : List A4) (a : A4) : List A4 := (zs.filter fun x => !(x.1 == a.1 && x.2.1 == a.2.1)) ++ [a]
theorem putZ_mem {a x : A4} : x ∈ putZ zs a ↔ (x ∈ zs ∧ ¬ (x.1 = a.1 ∧ x.2.1 = a.2.1)) ∨ x = a := by
  unfold putZ
  rw [List.mem_append, List.mem_filter, List.mem_singleton, sameB_iff]
theorem putZ_len (a : A4) : (putZ zs a).length ≤ zs.length + 1 := by
  unfold putZ
  rw [List.length_append]
  have := List.length_filter_le (fun x : A4 => !(x.1 == a.1 && x.2.1 == a.2.1)) zs
  simp only [List.length_cons, List.length_nil]
  omega
theorem Tied.put (h : Tied n bs R zs) (hi : OvInv n bs R) {a b : Nat} (han : a < n) (hbn : b < n) (hab : a ≠ b) (la : liv bs a = true) (lb : liv bs b = true) (wt via : Int) (v1 v2 : Value) : Tied n bs (putRows R a b wt via v1 v2) (putZ zs ((a : Int), (b : Int), wt, via)) := by
  refine ⟨fun x hx => ?_, ?_, fun s u hu y => ?_⟩
  · rcases putZ_mem.1 hx with ⟨h1, _⟩ | rfl
    · exact h.ends x h1
    · exact ⟨a, b, rfl, rfl, han, hbn, la, lb, hab⟩
  · unfold putZ
    rw [List.pairwise_append]
    refine ⟨h.one.filter _, by simp, ?_⟩
    intro x hx z hz
    rw [List.mem_singleton] at hz
    subst hz
    exact (sameB_iff x _).1 (List.mem_filter.1 hx).2
  · cases s with
    | false =>
      rw [sideA_mem_false, putZ_mem]
      by_cases eu : u = a
      · subst eu
        have e : rowL bs (putRows R u b wt via v1 v2) false u = livH bs (setH (R false u).2.1 ((b : Int), wt, via)) := by
          unfold rowL putRows
          rw [updS_far _ true false _ _ (by simp), updS_at]
        rw [e, livH_mem, setH_iff (hi.ok.rise false u hu)]
        constructor
        · rintro ⟨rfl | ⟨h1, h2⟩, h3⟩
          · exact Or.inr rfl
          · exact Or.inl ⟨sideA_mem_false.1 ((h.row false u hu y).1 (livH_mem.2 ⟨h1, h3⟩)), fun e => h2 e.2⟩
        · rintro (⟨h1, h2⟩ | h1)
          · have h3 := livH_mem.1 ((h.row false u hu y).2 (sideA_mem_false.2 h1))
            exact ⟨Or.inr ⟨h3.1, fun e => h2 ⟨rfl, e⟩⟩, h3.2⟩
          · have h4 : y = ((b : Int), wt, via) := by
              simp only [Prod.mk.injEq] at h1
              obtain ⟨_, e1, e2, e3⟩ := h1
              exact Prod.ext e1 (Prod.ext e2 e3)
            subst h4
            exact ⟨Or.inl rfl, by simpa [liv] using lb⟩
      · have e : rowL bs (putRows R a b wt via v1 v2) false u = rowL bs R false u := by
          unfold rowL putRows
          rw [updS_far _ true false _ _ (by simp), updS_other _ _ _ _ _ _ (by simp [eu])]
        rw [e, h.row false u hu, sideA_mem_false]
        constructor
        · intro h1
          exact Or.inl ⟨h1, fun e => eu (by have := e.1; simp at this; omega)⟩
        · rintro (⟨h1, _⟩ | h1)
          · exact h1
          · injection h1 with e1 _
            exact absurd e1 (by omega)
    | true =>
      rw [sideA_mem_true, putZ_mem]
      by_cases eu : u = b
      · subst eu
        have e : rowL bs (putRows R a u wt via v1 v2) true u = livH bs (setH (R true u).2.1 ((a : Int), wt, via)) := by
          unfold rowL putRows
          rw [updS_at]
        rw [e, livH_mem, setH_iff (hi.ok.rise true u hu)]
        constructor
        · rintro ⟨rfl | ⟨h1, h2⟩, h3⟩
          · exact Or.inr rfl
          · exact Or.inl ⟨sideA_mem_true.1 ((h.row true u hu y).1 (livH_mem.2 ⟨h1, h3⟩)), fun e => h2 e.1⟩
        · rintro (⟨h1, h2⟩ | h1)
          · have h3 := livH_mem.1 ((h.row true u hu y).2 (sideA_mem_true.2 h1))
            exact ⟨Or.inr ⟨h3.1, fun e => h2 ⟨e, rfl⟩⟩, h3.2⟩
          · have h4 : y = ((a : Int), wt, via) := by
              simp only [Prod.mk.injEq] at h1
              obtain ⟨e1, _, e2, e3⟩ := h1
              exact Prod.ext e1 (Prod.ext e2 e3)
            subst h4
            exact ⟨Or.inl rfl, by simpa [liv] using la⟩
      · have e : rowL bs (putRows R a b wt via v1 v2) true u = rowL bs R true u := by
          unfold rowL putRows
          rw [updS_other _ _ _ _ _ _ (by simp [eu]), updS_far _ false true _ _ (by simp)]
        rw [e, h.row true u hu, sideA_mem_true]
        constructor
        · intro h1
          exact Or.inl ⟨h1, fun e => eu (by have := e.2; simp at this; omega)⟩
        · rintro (⟨h1, _⟩ | h1)
          · exact h1
          · injection h1 with _ h1
            injection h1 with e1 _
            exact absurd e1 (by omega)
/-- what a Remove leaves. -/
def remZ (zs : List A4) (x : Int) : List A4 := zs.filter fun a => a.1 != x && a.2.1 != x
theorem remZ_mem {x : Int} {a : A4} : a ∈ remZ zs x ↔ a ∈ zs ∧ a.1 ≠ x ∧ a.2.1 ≠ x := by
  unfold remZ
  rw [List.mem_filter]
  simp
theorem Tied.remove (h : Tied n bs R zs) {R' : Bool → Nat → Rw} {u : Nat} (hu : u < n) (hR : ∀ s v, v < n → (R' s v).2 = if v = u then ([], 0) else if hasH (livH (bs.set u false) (R (!s) u).2.1) (v : Int) then loseH (bs.set u false) (R s v).2.1 (R s v).2.2 else (R s v).2) : Tied n (bs.set u false) R' (remZ zs (u : Int)) := by
  refine ⟨fun x hx => ?_, h.one.filter _, fun s v hv y => ?_⟩
  · obtain ⟨h1, h2, h3⟩ := remZ_mem.1 hx
    obtain ⟨p, q, e1, e2, hp, hq, lp, lq, hpq⟩ := h.ends x h1
    refine ⟨p, q, e1, e2, hp, hq, ?_, ?_, hpq⟩
    · rw [liv_set, if_neg (by omega)]; exact lp
    · rw [liv_set, if_neg (by omega)]; exact lq
  · by_cases ev : v = u
    · subst ev
      have e : rowL (bs.set v false) R' s v = [] := by
        unfold rowL
        rw [hR s v hv, if_pos rfl]
        rfl
      rw [e]
      constructor
      · intro h1; cases h1
      · intro h1
        cases s with
        | false => exact absurd rfl (remZ_mem.1 (sideA_mem_false.1 h1)).2.1
        | true => exact absurd rfl (remZ_mem.1 (sideA_mem_true.1 h1)).2.2
    · have e : rowL (bs.set u false) R' s v = livH (bs.set u false) (R s v).2.1 := by
        unfold rowL
        rw [hR s v hv, if_neg ev]
        split
        · unfold loseH
          split
          · exact livH_twice _ _
          · rfl
        · rfl
      have e2 : y ∈ livH (bs.set u false) (R s v).2.1 ↔ y ∈ rowL bs R s v ∧ y.1.toNat ≠ u := by
        unfold rowL
        have hls := liv_set bs u y.1.toNat
        unfold liv at hls
        rw [livH_mem, livH_mem, hls]
        by_cases e3 : y.1.toNat = u
        · simp [e3]
        · simp [e3]
      rw [e, e2, h.row s v hv]
      cases s with
      | false =>
        rw [sideA_mem_false, sideA_mem_false, remZ_mem]
        constructor
        · rintro ⟨h1, h2⟩
          obtain ⟨p, q, e1, e2, _⟩ := h.ends _ h1
          simp only at e1 e2
          exact ⟨h1, by show (v : Int) ≠ _; omega, by show y.1 ≠ _; omega⟩
        · rintro ⟨h1, _, h2⟩
          obtain ⟨p, q, e1, e2, _⟩ := h.ends _ h1
          simp only at e1 e2 h2
          exact ⟨h1, by omega⟩
      | true =>
        rw [sideA_mem_true, sideA_mem_true, remZ_mem]
        constructor
        · rintro ⟨h1, h2⟩
          obtain ⟨p, q, e1, e2, _⟩ := h.ends _ h1
          simp only at e1 e2
          exact ⟨h1, by show y.1 ≠ _; omega, by show (v : Int) ≠ _; omega⟩
        · rintro ⟨h1, h2, _⟩
          obtain ⟨p, q, e1, e2, _⟩ := h.ends _ h1
          simp only at e1 e2 h2
          exact ⟨h1, by omega⟩
theorem side_sumA : ∀ {zs : List A4}, (∀ a ∈ zs, 0 ≤ a.1 ∧ a.1 < (n : Int)) → sumN n (fun u => (sideA false zs (u : Int)).length) = zs.length
  | [], _ => sumN_zero n
  | a :: r, h0 => by
    have ih := side_sumA (zs := r) (fun b hb => h0 b (by simp [hb]))
    obtain ⟨m, hm⟩ : ∃ m : Nat, a.1 = (m : Int) := ⟨a.1.toNat, by have := (h0 a (by simp)).1; omega⟩
    have hmn : m < n := by have := (h0 a (by simp)).2; omega
    have e : sumN n (fun u => (sideA false (a :: r) (u : Int)).length) = sumN n (fun u => if u = m then (sideA false r (m : Int)).length + 1 else (sideA false r (u : Int)).length) := sumN_congr (fun u _ => by
      unfold sideA
      simp only [Bool.false_eq_true, if_false, List.length_map]
      by_cases eu : u = m
      · subst eu
        rw [if_pos rfl, List.filter_cons_of_pos (by simpa using hm), List.length_cons]
      · rw [if_neg eu, List.filter_cons_of_neg (by simp [hm]; omega)])
    have h3 := sumN_upd hmn (fun u => (sideA false r (u : Int)).length) ((sideA false r (m : Int)).length + 1)
    rw [e, List.length_cons]
    omega
theorem Tied.arcs (h : Tied n bs R zs) (hi : OvInv n bs R) : arcSum n bs R = zs.length := by
  have e : sumN n (fun u => (sideA false zs (u : Int)).length) = zs.length := side_sumA (fun a ha => by
    obtain ⟨u, v, e1, _, hu, _⟩ := h.ends a ha
    omega)
  rw [← e]
  exact sumN_congr (fun u hu => by
    show (rowL bs R false u).length = _
    rw [← h.rows hi false hu, sortA_len])
end
end Go.Proofs.YtnclegldhafaeaaGreatDoor

namespace Go.Proofs.YtnclegldhafaeaaGreatDoor
open Go.RowKit Go.Extern Go.Sort

attribute [local go_sem] Oper.semAt_some

/-- flags in memory. -/
def HasFl (w : World) (lv : Value) (bs : List Bool) : Prop := ∃ ao cap, lv = .slice ao bs.length cap ∧ ∀ m, m < bs.length → ∃ g, ao = some ⟨g, 0, none⟩ ∧ g < w.heap.size ∧ w.cell? ⟨g, m, none⟩ = some (.bool (liv bs m))
theorem HasFl.keep {w w' : World} {lv : Value} {bs : List Bool} (h : HasFl w lv bs) (hb : Below w.heap.size w w') : HasFl w' lv bs := by
  obtain ⟨ao, cap, e, hc⟩ := h
  refine ⟨ao, cap, e, fun m hm => ?_⟩
  obtain ⟨g, e1, hl, h0⟩ := hc m hm
  exact ⟨g, e1, Nat.lt_of_lt_of_le hl hb.size, (hb.cell (p := ⟨g, _, none⟩) hl).trans h0⟩
theorem HasFl.at {w : World} {ao : Option Addr} {n cap : Nat} {bs : List Bool} (h : HasFl w (.slice ao n cap) bs) {m : Nat} (hm : m < bs.length) : ∃ g, ao = some ⟨g, 0, none⟩ ∧ g < w.heap.size ∧ w.cell? ⟨g, m, none⟩ = some (.bool (liv bs m)) := by
  obtain ⟨ao', cap', e, hc⟩ := h
  injection e with e1 e2 e3
  subst e1
  exact hc m hm
theorem bel_one (w : World) (X : Obj) : Below w.heap.size w (w.alloc X) := (Below.refl _ w).alloc (Nat.le_refl _) _

set_option maxRecDepth 100000 in
set_option maxHeartbeats 2000000 in
theorem lives_calls (fo : Option Addr) (cap n : Nat) (bs : List Bool) (hl : bs.length = n) (ao : Option Addr) (zl zc : Nat) (x : Int) (w : World) (hg : HasFl w (.slice fo n cap) bs) (_hn : n ≤ 65536) :
    Calls Tryz.prog 31 #[.agg #[.slice fo n cap, .slice ao zl zc], .int .i64 x] w fun e w' => e = .returned (.bool (aliveB n bs x)) ∧ Below w.heap.size w w' := by
  obtain ⟨W0, hW0⟩ : ∃ W0, w.alloc (.cells #[.slice fo n cap, .slice ao zl zc] 40) = W0 := ⟨_, rfl⟩
  have HW0 : Hid (w.alloc (.cells #[.slice fo n cap, .slice ao zl zc] 40) = W0) := hW0
  have hb : Below w.heap.size w W0 := by rw [← hW0]; exact bel_one _ _
  have HB : Hid (Below w.heap.size w W0) := hb
  have hbx : W0.heap[w.heap.size]? = some (.cells #[.slice fo n cap, .slice ao zl zc] 40) := by rw [← hW0]; exact heap_new _ _
  obtain ⟨c0, c1, _, _⟩ := cell_two hbx
  have cs := lt_of_get hbx
  have hg0 := hg.keep hb
  by_cases h0 : 0 ≤ x
  · by_cases h1 : x < (n : Int)
    · obtain ⟨m, rfl⟩ : ∃ m : Nat, x = (m : Int) := ⟨x.toNat, by omega⟩
      obtain ⟨g, rfl, gs, c5⟩ := hg0.at (m := m) (by omega)
      have h1n : m < n := by omega
      have h1d : decide (m < n) = true := decide_eq_true h1n
      have HE : Hid (aliveB n bs (m : Int) = liv bs m) := alive_liv (by omega)
      clear hW0 hb hbx hg hg0 hl
      cases hlv : liv bs m with
      | true =>
        rw [hlv] at c5 HE
        clear hlv
        go_enter Tryz.func31, Tryz.ntmps31
        go_upto_region 1 with fail
        rw [HW0.out]
        go_wp2
        go_ret
        exact ⟨by rw [HE.out]; rfl, HB.out⟩
      | false =>
        rw [hlv] at c5 HE
        clear hlv
        go_enter Tryz.func31, Tryz.ntmps31
        go_upto_region 1 with fail
        rw [HW0.out]
        go_wp2
        go_ret
        exact ⟨by rw [HE.out]; rfl, HB.out⟩
    · have h1' : decide (x < (n : Int)) = false := decide_eq_false h1
      have HE : Hid (aliveB n bs x = false) := by show _ = _; unfold aliveB isN; rw [h1']; simp
      clear hW0 hb hbx hg hg0 hl
      go_enter Tryz.func31, Tryz.ntmps31
      go_wp2_with fail
      rw [HW0.out]
      go_wp2
      go_ret
      exact ⟨by rw [HE.out]; rfl, HB.out⟩
  · have h0' : decide (0 ≤ x) = false := decide_eq_false h0
    have HE : Hid (aliveB n bs x = false) := by show _ = _; unfold aliveB isN; rw [h0']; simp
    clear hW0 hb hbx hg hg0 hl
    go_enter Tryz.func31, Tryz.ntmps31
    go_wp2_with fail
    rw [HW0.out]
    go_wp2
    go_ret
    exact ⟨by rw [HE.out]; rfl, HB.out⟩

set_option maxRecDepth 100000 in
set_option maxHeartbeats 2000000 in
theorem rLen11_calls (fo : Option Addr) (cap n : Nat) (bs : List Bool) (hl : bs.length = n) (ao : Option Addr) (zl zc : Nat) (w : World) (hg : HasFl w (.slice fo n cap) bs) (hn : n ≤ 65536) :
    Calls Tryz.prog 35 #[.agg #[.slice fo n cap, .slice ao zl zc]] w fun e w' => e = .returned (.int .i64 ((aliveN n bs : Nat) : Int)) ∧ Below w.heap.size w w' := by
  obtain ⟨W0, hW0⟩ : ∃ W0, w.alloc (.cells #[.slice fo n cap, .slice ao zl zc] 40) = W0 := ⟨_, rfl⟩
  have HW0 : Hid (w.alloc (.cells #[.slice fo n cap, .slice ao zl zc] 40) = W0) := hW0
  have hb : Below w.heap.size w W0 := by rw [← hW0]; exact bel_one _ _
  have HB : Hid (Below w.heap.size w W0) := hb
  have hbx : W0.heap[w.heap.size]? = some (.cells #[.slice fo n cap, .slice ao zl zc] 40) := by rw [← hW0]; exact heap_new _ _
  obtain ⟨c0, c1, _, _⟩ := cell_two hbx
  have cs := lt_of_get hbx
  have hg0 := hg.keep hb
  have HF : Hid (∀ m, m < n → ∃ g, fo = some ⟨g, 0, none⟩ ∧ g < W0.heap.size ∧ W0.cell? ⟨g, m, none⟩ = some (.bool (liv bs m))) := fun m hm => hg0.at (by omega)
  have HAN : Hid (∀ k, k ≤ n → aliveN k bs ≤ 65536) := fun k hk => by
    have h := sumN_le k (fun u => if liv bs u then 1 else 0) 1 (fun i _ => by split <;> omega)
    show sumN k _ ≤ _
    omega
  clear hW0 hb hbx hg hg0 hl
  go_enter Tryz.func35, Tryz.ntmps35
  go_wp2_with fail
  rw [HW0.out]
  go_wp2_with fail
  clear c0 c1
  go_loopw [3, 9] (fun cv iv wr => ∃ k : Nat, k ≤ n ∧ cv = .int .i64 ((aliveN k bs : Nat) : Int) ∧ iv = .int .i64 (k : Nat) ∧ wr = W0) (fun _ iv _ => n - (intOf iv).toNat)
  case atStart => exact ⟨0, Nat.zero_le _, rfl, rfl, rfl⟩
  case round =>
    obtain ⟨k, hk, rfl, rfl, rfl⟩ := hrel
    by_cases hlt : k < n
    · obtain ⟨g, rfl, gs, c5⟩ := HF.out k hlt
      have hle := HAN.out k hk
      have HS : Hid (aliveN (k + 1) bs = aliveN k bs + (if liv bs k then 1 else 0)) := rfl
      have i1 : (k : Int) < (n : Int) := by omega
      have i2 : (0 : Int) ≤ (k : Int) := by omega
      generalize aliveN k bs = A at *
      cases hv : liv bs k with
      | true =>
        rw [hv] at c5 HS
        clear hv
        go_wp2
        go_roundw
        case rel => exact ⟨k + 1, by omega, by rw [HS.out]; simp only [if_true]; go_num, by go_num, by simp⟩
        case measure => simp [intOf]; omega
      | false =>
        rw [hv] at c5 HS
        clear hv
        go_wp2
        go_roundw
        case rel => exact ⟨k + 1, by omega, by rw [HS.out]; simp only [Bool.false_eq_true, if_false]; go_num, by go_num, by simp⟩
        case measure => simp [intOf]; omega
    · obtain rfl : k = n := by omega
      go_wp2
      go_ret
      exact ⟨rfl, HB.out⟩
/-- the weight of the arc between two nodes. -/
def wtA (zs : List A4) (x y : Int) : Option Int := (findA zs x y).map (·.2.2.1)
theorem findA_take {zs : List A4} {k : Nat} {a : A4} {x y : Int} (hk : zs[k]? = some a) (h0 : findA (zs.take k) x y = none) : (a.1 = x ∧ a.2.1 = y → findA zs x y = some a) ∧ (¬ (a.1 = x ∧ a.2.1 = y) → findA (zs.take (k + 1)) x y = none) := by
  unfold findA at *
  constructor
  · intro e
    have hlt := (List.getElem?_eq_some_iff.1 hk).1
    have hd : zs.drop k = a :: zs.drop (k + 1) := by rw [List.drop_eq_getElem_cons hlt, (List.getElem?_eq_some_iff.1 hk).2]
    rw [← List.take_append_drop k zs, hd, List.find?_append, h0, List.find?_cons_of_pos (by simp [e.1, e.2])]
    rfl
  · intro e
    rw [List.take_add_one, hk, List.find?_append, h0, Option.none_or]
    show (List.find? _ [a]) = none
    rw [List.find?_cons_of_neg (by simpa using e)]
    rfl

set_option maxRecDepth 100000 in
set_option maxHeartbeats 2000000 in
theorem rWeight11_calls (al : Value) (ao : Option Addr) (cap : Nat) (zs : List A4) (x y : Int) (w : World) (hA : HasA4 w (.slice ao zs.length cap) zs) (hz : zs.length ≤ 262144) (bo : Option Addr) (bl bc : Nat) (hal : al = .slice bo bl bc) :
    Calls Tryz.prog 34 #[.agg #[al, .slice ao zs.length cap], .int .i64 x, .int .i64 y] w fun e w' => e = .returned (.tuple #[.int .u64 ((wtA zs x y).getD 0), .bool (wtA zs x y).isSome]) ∧ Below w.heap.size w w' := by
  subst hal
  obtain ⟨W0, hW0⟩ : ∃ W0, w.alloc (.cells #[.slice bo bl bc, .slice ao zs.length cap] 40) = W0 := ⟨_, rfl⟩
  have HW0 : Hid (w.alloc (.cells #[.slice bo bl bc, .slice ao zs.length cap] 40) = W0) := hW0
  have hB0 : Below w.heap.size w W0 := by rw [← hW0]; exact bel_one _ _
  have hbx : W0.heap[w.heap.size]? = some (.cells #[.slice bo bl bc, .slice ao zs.length cap] 40) := by rw [← hW0]; exact heap_new _ _
  have HG : Hid (∀ wx, Below W0.heap.size W0 wx → HasA4 wx (.slice ao zs.length cap) zs ∧ Below w.heap.size w wx) := fun wx hwx => by
    have hb := hB0.trans (hwx.mono hB0.size)
    exact ⟨hA.keep hb, hb⟩
  obtain ⟨g0, g1, _, _⟩ := cell_two hbx
  have gs : w.heap.size < W0.heap.size := lt_of_get hbx
  clear hW0 hB0 hbx hA
  go_enter Tryz.func34, Tryz.ntmps34
  go_wp2_with fail
  rw [HW0.out]
  go_wp2_with fail
  clear g0 g1 gs
  go_loopw [13] (fun iv wr => ∃ k : Nat, k ≤ zs.length ∧ iv = .int .i64 (k : Nat) ∧ Below W0.heap.size W0 wr ∧ findA (zs.take k) x y = none) (fun iv _ => zs.length - (intOf iv).toNat)
  case atStart => exact ⟨0, Nat.zero_le _, rfl, Below.refl _ _, rfl⟩
  case round =>
    obtain ⟨k, hk, rfl, hbw, hno⟩ := hrel
    by_cases hlt : k < zs.length
    · obtain ⟨a, ha⟩ : ∃ a, zs[k]? = some a := ⟨zs[k], List.getElem?_eq_getElem hlt⟩
      obtain ⟨lb, lof, rfl, ll, p0, p1, p2, p3⟩ := (HG.out wr hbw).1.at ha
      obtain ⟨hy, hn⟩ := findA_take ha hno
      obtain ⟨a0, a1, a2, a3⟩ := a
      simp only at p0 p1 p2 p3 hy hn
      obtain ⟨Wa, hWa⟩ : ∃ Wa, wr.alloc (.cells #[.int .i64 a0, .int .i64 a1, .int .u64 a2, .int .i64 a3] 91) = Wa := ⟨_, rfl⟩
      have HWA : Hid (wr.alloc (.cells #[.int .i64 a0, .int .i64 a1, .int .u64 a2, .int .i64 a3] 91) = Wa) := hWa
      have bWa : Below wr.heap.size wr Wa := by rw [← hWa]; exact bel_one _ _
      have hnew : Wa.heap[wr.heap.size]? = some (.cells #[.int .i64 a0, .int .i64 a1, .int .u64 a2, .int .i64 a3] 91) := by rw [← hWa]; exact heap_new _ _
      have HBA : Hid (Below W0.heap.size W0 Wa) := hbw.trans (bWa.mono hbw.size)
      have n0 : Wa.cell? ⟨wr.heap.size, 0, none⟩ = some (.int .i64 a0) := by simp [World.cell?, hnew]
      have n1 : Wa.cell? ⟨wr.heap.size, 1, none⟩ = some (.int .i64 a1) := by simp [World.cell?, hnew]
      have n2 : Wa.cell? ⟨wr.heap.size, 2, none⟩ = some (.int .u64 a2) := by simp [World.cell?, hnew]
      have n3 : Wa.cell? ⟨wr.heap.size, 3, none⟩ = some (.int .i64 a3) := by simp [World.cell?, hnew]
      have ns : wr.heap.size < Wa.heap.size := lt_of_get hnew
      have t1 : (k : Int) < (zs.length : Int) := by omega
      have t2 : (0 : Int) ≤ (k : Int) := by omega
      clear hbw ha hWa bWa hnew hno
      by_cases e0 : a0 = x
      · subst e0
        by_cases e1 : a1 = y
        · subst e1
          have HF : Hid (wtA zs a0 a1 = some a2) := by show _ = _; unfold wtA; rw [hy ⟨rfl, rfl⟩]; rfl
          clear hy hn
          go_upto_region 4 with fail
          rw [HWA.out]
          go_wp2
          refine bodyPost_ret (v := .tuple #[.int .u64 a2, .bool true]) (by simp [results, Tryz.results34, go_sem]) rfl ⟨by rw [HF.out]; rfl, (HG.out Wa HBA.out).2⟩
        · have HN : Hid (findA (zs.take (k + 1)) a0 y = none) := hn (fun e => e1 e.2)
          have b1 : (a1 == y) = false := beq_eq_false_iff_ne.2 e1
          clear hy hn
          go_upto_region 4 with fail
          rw [HWA.out]
          go_wp2
          go_roundw
          case rel => exact ⟨k + 1, by omega, by go_num, HBA.out, HN.out⟩
          case measure => simp [intOf]; omega
      · have HN : Hid (findA (zs.take (k + 1)) x y = none) := hn (fun e => e0 e.1)
        have b1 : (a0 == x) = false := beq_eq_false_iff_ne.2 e0
        clear hy hn
        go_upto_region 4 with fail
        rw [HWA.out]
        go_wp2
        go_roundw
        case rel => exact ⟨k + 1, by omega, by go_num, HBA.out, HN.out⟩
        case measure => simp [intOf]; omega
    · obtain rfl : k = zs.length := by omega
      have HF : Hid (wtA zs x y = none) := by show _ = _; unfold wtA; rw [List.take_length] at hno; rw [hno]; rfl
      have HBW : Hid (Below w.heap.size w wr) := (HG.out wr hbw).2
      clear hno hbw
      go_wp2
      refine bodyPost_ret (v := .tuple #[.int .u64 0, .bool false]) (by simp [results, Tryz.results34, go_sem]) rfl ⟨by rw [HF.out]; rfl, HBW.out⟩
theorem two_set {w : World} {g : Nat} {c0 c1 v0 v1 : Value} {T : TypeId} (h : w.heap[g]? = some (.cells #[c0, c1] T (0, 0))) : ((w.setCell ⟨g, 0, none⟩ v0).setCell ⟨g, 1, none⟩ v1).heap[g]? = some (.cells #[v0, v1] T (0, 0)) := by
  rw [hsc_same _ (hsc_same _ h)]
  rfl
theorem two_below {w : World} {g b : Nat} {v0 v1 : Value} (h : b ≤ g) : Below b w ((w.setCell ⟨g, 0, none⟩ v0).setCell ⟨g, 1, none⟩ v1) := ((Below.refl _ w).setCell (p := ⟨g, 0, none⟩) (show b ≤ g from h) _).setCell (p := ⟨g, 1, none⟩) (show b ≤ g from h) _
theorem two_new (w : World) (X Y : Obj) : ((w.alloc X).alloc Y).heap[w.heap.size]? = some X ∧ ((w.alloc X).alloc Y).heap[w.heap.size + 1]? = some Y ∧ Below w.heap.size w ((w.alloc X).alloc Y) := by
  refine ⟨?_, ?_, ((Below.refl _ w).alloc (Nat.le_refl _) _).alloc (by simp) _⟩
  · rw [Below.heap_alloc _ _ _ (by simp)]; exact heap_new _ _
  · have h := heap_new (w.alloc X) Y
    simpa using h

set_option maxRecDepth 100000 in
set_option maxHeartbeats 8000000 in
theorem rDocPut11_calls (fo : Option Addr) (cap n : Nat) (bs : List Bool) (hl : bs.length = n) (ao : Option Addr) (zl zc : Nat) (x y wt via : Int) (w : World) (hg : HasFl w (.slice fo n cap) bs) (hn : n ≤ 65536) :
    Calls Tryz.prog 29 #[.agg #[.slice fo n cap, .slice ao zl zc], .int .i64 x, .int .i64 y, .int .u64 wt, .int .i64 via] w fun e w' => e = .returned (.agg #[.int .i64 (putErr n bs x y wt via), .slice none 0 0]) ∧ Below w.heap.size w w' := by
  obtain ⟨q0, q1, q2⟩ := two_new w (.cells #[.slice fo n cap, .slice ao zl zc] 40) (.cells #[.int .i64 0, .slice none 0 0] 34)
  obtain ⟨W0, hW0⟩ : ∃ W0, (w.alloc (.cells #[.slice fo n cap, .slice ao zl zc] 40)).alloc (.cells #[.int .i64 0, .slice none 0 0] 34) = W0 := ⟨_, rfl⟩
  rw [hW0] at q0 q1 q2
  have HW0 : Hid ((w.alloc (.cells #[.slice fo n cap, .slice ao zl zc] 40)).alloc (.cells #[.int .i64 0, .slice none 0 0] 34) = W0) := hW0
  have HG : Hid (∀ wx, Below W0.heap.size W0 wx → wx.cell? ⟨w.heap.size, 0, none⟩ = some (.slice fo n cap) ∧ wx.cell? ⟨w.heap.size, 1, none⟩ = some (.slice ao zl zc) ∧ wx.heap[w.heap.size + 1]? = some (.cells #[.int .i64 0, .slice none 0 0] 34 (0, 0)) ∧ w.heap.size < wx.heap.size ∧ (∀ m, m < n → ∃ g, fo = some ⟨g, 0, none⟩ ∧ g < wx.heap.size ∧ wx.cell? ⟨g, m, none⟩ = some (.bool (liv bs m)))) := fun wx h => by
    have h0 := (h.block _ (lt_of_get q0)).trans q0
    have hw := q2.trans (h.mono q2.size)
    have hgx := hg.keep hw
    exact ⟨(cell_two h0).1, (cell_two h0).2.1, (h.block _ (lt_of_get q1)).trans q1, lt_of_get h0, fun m hm => hgx.at (by omega)⟩
  have HL : Hid (∀ wx x, Below W0.heap.size W0 wx → Calls Tryz.prog 31 #[.agg #[.slice fo n cap, .slice ao zl zc], .int .i64 x] wx fun e w' => e = .returned (.bool (aliveB n bs x)) ∧ Below wx.heap.size wx w') := fun wx x h =>
    lives_calls fo cap n bs hl ao zl zc x wx (hg.keep (q2.trans (h.mono q2.size))) hn
  have HEND : Hid (∀ wx v0, Below W0.heap.size W0 wx → ((wx.setCell ⟨w.heap.size + 1, 0, none⟩ v0).setCell ⟨w.heap.size + 1, 1, none⟩ (.slice none 0 0)).heap[w.heap.size + 1]? = some (.cells #[v0, .slice none 0 0] 34 (0, 0)) ∧ Below w.heap.size w ((wx.setCell ⟨w.heap.size + 1, 0, none⟩ v0).setCell ⟨w.heap.size + 1, 1, none⟩ (.slice none 0 0))) := fun wx v0 h =>
    ⟨two_set ((h.block _ (lt_of_get q1)).trans q1), (q2.trans (h.mono q2.size)).trans (two_below (by omega))⟩
  clear hW0 q0 q1 q2 hg hl
  obtain ⟨c0, c1, cr, cs, _⟩ := HG.out W0 (Below.refl _ _)
  obtain ⟨r0, r1, f0, f1⟩ := cell_two cr
  have rs := lt_of_get cr
  clear cr
  go_enter Tryz.func29, Tryz.ntmps29
  go_wp2_with fail
  rw [HW0.out]
  refine (HL.out W0 x (Below.refl _ _)).mono ?_
  rintro e w1 ⟨rfl, hb1⟩
  have HB1 : Hid (Below W0.heap.size W0 w1) := hb1
  clear hb1 c0 c1 cs r0 r1 f0 f1 rs
  obtain ⟨c0, c1, cr, cs, _⟩ := HG.out w1 HB1.out
  obtain ⟨r0, r1, f0, f1⟩ := cell_two cr
  have rs := lt_of_get cr
  clear cr
  cases hx : aliveB n bs x with
  | false =>
    have HP : Hid (putErr n bs x y wt via = 7) := by show _ = _; unfold putErr; rw [hx]; simp
    clear hx
    go_wp2_with fail
    refine (E_calls 7 w1).mono ?_
    rintro e w2 ⟨rfl, hb2⟩
    have HB2 : Hid (Below W0.heap.size W0 w2) := HB1.out.trans (hb2.mono HB1.out.size)
    clear hb2 c0 c1 cs r0 r1 f0 f1 rs
    obtain ⟨_, _, cr, _, _⟩ := HG.out w2 HB2.out
    obtain ⟨r0, r1, f0, f1⟩ := cell_two cr
    have rs := lt_of_get cr
    clear cr
    go_wp2
    obtain ⟨z1, z2⟩ := HEND.out w2 (.int .i64 7) HB2.out
    generalize ((w2.setCell ⟨w.heap.size + 1, 0, none⟩ (.int .i64 7)).setCell ⟨w.heap.size + 1, 1, none⟩ (.slice none 0 0)) = Wf at *
    obtain ⟨u0, u1, _, _⟩ := cell_two z1
    refine bodyPost_ret (v := .agg #[.int .i64 7, .slice none 0 0]) (by simp [results, Tryz.results29, go_sem, u0, u1]) rfl ⟨by rw [HP.out], z2⟩
  | true =>
    go_wp2_with fail
    refine (HL.out w1 y HB1.out).mono ?_
    rintro e w2 ⟨rfl, hb2⟩
    have HB2 : Hid (Below W0.heap.size W0 w2) := HB1.out.trans (hb2.mono HB1.out.size)
    clear hb2 c0 c1 cs r0 r1 f0 f1 rs
    obtain ⟨c0, c1, cr, cs, cf⟩ := HG.out w2 HB2.out
    obtain ⟨r0, r1, f0, f1⟩ := cell_two cr
    have rs := lt_of_get cr
    have HCF : Hid (type_of% cf) := cf
    clear cr cf
    cases hy : aliveB n bs y with
    | false =>
      have HP : Hid (putErr n bs x y wt via = 7) := by show _ = _; unfold putErr; rw [hx, hy]; simp
      clear hx hy
      go_wp2_with fail
      refine (E_calls 7 w2).mono ?_
      rintro e w3 ⟨rfl, hb3⟩
      have HB3 : Hid (Below W0.heap.size W0 w3) := HB2.out.trans (hb3.mono HB2.out.size)
      clear hb3 c0 c1 cs r0 r1 f0 f1 rs
      obtain ⟨_, _, cr, _, _⟩ := HG.out w3 HB3.out
      obtain ⟨r0, r1, f0, f1⟩ := cell_two cr
      have rs := lt_of_get cr
      clear cr
      go_wp2
      obtain ⟨z1, z2⟩ := HEND.out w3 (.int .i64 7) HB3.out
      generalize ((w3.setCell ⟨w.heap.size + 1, 0, none⟩ (.int .i64 7)).setCell ⟨w.heap.size + 1, 1, none⟩ (.slice none 0 0)) = Wf at *
      obtain ⟨u0, u1, _, _⟩ := cell_two z1
      refine bodyPost_ret (v := .agg #[.int .i64 7, .slice none 0 0]) (by simp [results, Tryz.results29, go_sem, u0, u1]) rfl ⟨by rw [HP.out], z2⟩
    | true =>
      by_cases hxy : x = y
      · have HP : Hid (putErr n bs x y wt via = 1) := by show _ = _; unfold putErr; rw [hx, hy]; simp [hxy]
        clear hx hy
        have bxy : (x == y) = true := by simp [hxy]
        subst hxy
        go_wp2_with fail
        refine (E_calls 1 w2).mono ?_
        rintro e w3 ⟨rfl, hb3⟩
        have HB3 : Hid (Below W0.heap.size W0 w3) := HB2.out.trans (hb3.mono HB2.out.size)
        clear hb3 c0 c1 cs r0 r1 f0 f1 rs
        obtain ⟨_, _, cr, _, _⟩ := HG.out w3 HB3.out
        obtain ⟨r0, r1, f0, f1⟩ := cell_two cr
        have rs := lt_of_get cr
        clear cr
        go_wp2
        obtain ⟨z1, z2⟩ := HEND.out w3 (.int .i64 1) HB3.out
        generalize ((w3.setCell ⟨w.heap.size + 1, 0, none⟩ (.int .i64 1)).setCell ⟨w.heap.size + 1, 1, none⟩ (.slice none 0 0)) = Wf at *
        obtain ⟨u0, u1, _, _⟩ := cell_two z1
        refine bodyPost_ret (v := .agg #[.int .i64 1, .slice none 0 0]) (by simp [results, Tryz.results29, go_sem, u0, u1]) rfl ⟨by rw [HP.out], z2⟩
      · have bxy : (x == y) = false := beq_eq_false_iff_ne.2 hxy
        by_cases hwt : 140737488355328 < wt
        · have HP : Hid (putErr n bs x y wt via = 8) := by show _ = _; unfold putErr; rw [hx, hy]; simp [hxy, hwt]
          have bwt : decide (140737488355328 < wt) = true := decide_eq_true hwt
          clear hx hy
          go_wp2_with fail
          refine (E_calls 8 w2).mono ?_
          rintro e w3 ⟨rfl, hb3⟩
          have HB3 : Hid (Below W0.heap.size W0 w3) := HB2.out.trans (hb3.mono HB2.out.size)
          clear hb3 c0 c1 cs r0 r1 f0 f1 rs
          obtain ⟨_, _, cr, _, _⟩ := HG.out w3 HB3.out
          obtain ⟨r0, r1, f0, f1⟩ := cell_two cr
          have rs := lt_of_get cr
          clear cr
          go_wp2
          obtain ⟨z1, z2⟩ := HEND.out w3 (.int .i64 8) HB3.out
          generalize ((w3.setCell ⟨w.heap.size + 1, 0, none⟩ (.int .i64 8)).setCell ⟨w.heap.size + 1, 1, none⟩ (.slice none 0 0)) = Wf at *
          obtain ⟨u0, u1, _, _⟩ := cell_two z1
          refine bodyPost_ret (v := .agg #[.int .i64 8, .slice none 0 0]) (by simp [results, Tryz.results29, go_sem, u0, u1]) rfl ⟨by rw [HP.out], z2⟩
        · have bwt : decide (140737488355328 < wt) = false := decide_eq_false hwt
          have HPE : Hid (putErr n bs x y wt via = if via = -1 then 0 else if goneB n bs via then 0 else 1) := by show _ = _; unfold putErr; rw [hx, hy]; simp [hxy, hwt]
          clear hx hy
          by_cases hv1 : via = -1
          · subst hv1
            go_wp2
            obtain ⟨z1, z2⟩ := HEND.out w2 (.int .i64 0) HB2.out
            generalize ((w2.setCell ⟨w.heap.size + 1, 0, none⟩ (.int .i64 0)).setCell ⟨w.heap.size + 1, 1, none⟩ (.slice none 0 0)) = Wf at *
            obtain ⟨u0, u1, _, _⟩ := cell_two z1
            refine bodyPost_ret (v := .agg #[.int .i64 0, .slice none 0 0]) (by simp [results, Tryz.results29, go_sem, u0, u1]) rfl ⟨by rw [HPE.out]; rfl, z2⟩
          · have bv1 : (via != -1) = true := by simpa using hv1
            have bv2 : (via == -1) = false := by simpa using hv1
            have HPE2 : Hid (putErr n bs x y wt via = if goneB n bs via then 0 else 1) := by show _ = _; rw [HPE.out, if_neg hv1]
            by_cases hs : isN n via = true ∧ goneB n bs via = true
            · obtain ⟨hv2, hgn⟩ := hs
              obtain ⟨m, rfl⟩ : ∃ m : Nat, via = (m : Int) := ⟨via.toNat, by simp [isN] at hv2; omega⟩
              have hm : m < n := by simp [isN] at hv2; omega
              obtain ⟨g, rfl, gs, cm⟩ := HCF.out m hm
              have hlv : liv bs m = false := by unfold goneB at hgn; rw [hv2, Int.toNat_natCast] at hgn; simpa [liv] using hgn
              rw [hlv] at cm
              have i1 : ¬ ((m : Int) < 0) := by omega
              have i2 : ¬ ((n : Int) ≤ (m : Int)) := by omega
              have i3 : decide (n ≤ m) = false := decide_eq_false (by omega)
              have HP : Hid (putErr n bs x y wt (m : Int) = 0) := by show _ = _; rw [HPE2.out, hgn]; rfl
              clear hv2 hgn hlv
              go_wp2
              obtain ⟨z1, z2⟩ := HEND.out w2 (.int .i64 0) HB2.out
              generalize ((w2.setCell ⟨w.heap.size + 1, 0, none⟩ (.int .i64 0)).setCell ⟨w.heap.size + 1, 1, none⟩ (.slice none 0 0)) = Wf at *
              obtain ⟨u0, u1, _, _⟩ := cell_two z1
              refine bodyPost_ret (v := .agg #[.int .i64 0, .slice none 0 0]) (by simp [results, Tryz.results29, go_sem, u0, u1]) rfl ⟨by rw [HP.out], z2⟩
            · have HP : Hid (putErr n bs x y wt via = 1) := by
                show _ = _
                rw [HPE2.out, if_neg]
                intro h
                exact hs ⟨by unfold goneB at h; simp at h; exact h.1, h⟩
              have hcase : via < 0 ∨ (n : Int) ≤ via ∨ ∃ m : Nat, via = (m : Int) ∧ m < n ∧ liv bs m = true := by
                by_cases z0 : via < 0
                · exact Or.inl z0
                · by_cases z1 : (n : Int) ≤ via
                  · exact Or.inr (Or.inl z1)
                  · refine Or.inr (Or.inr ⟨via.toNat, by omega, by omega, ?_⟩)
                    cases hl : liv bs via.toNat with
                    | true => rfl
                    | false =>
                      have i : isN n via = true := by unfold isN; simp; omega
                      exact absurd ⟨i, by unfold goneB; rw [i]; simpa [liv] using hl⟩ hs
              clear hs
              rcases hcase with hv2 | hv2 | ⟨m, rfl, hm, hlv⟩
              · have i1 : decide (via < 0) = true := decide_eq_true hv2
                go_wp2_with fail
                refine (E_calls 1 w2).mono ?_
                rintro e w3 ⟨rfl, hb3⟩
                have HB3 : Hid (Below W0.heap.size W0 w3) := HB2.out.trans (hb3.mono HB2.out.size)
                clear hb3 c0 c1 cs r0 r1 f0 f1 rs
                obtain ⟨_, _, cr, _, _⟩ := HG.out w3 HB3.out
                obtain ⟨r0, r1, f0, f1⟩ := cell_two cr
                have rs := lt_of_get cr
                clear cr
                go_wp2
                obtain ⟨z1, z2⟩ := HEND.out w3 (.int .i64 1) HB3.out
                generalize ((w3.setCell ⟨w.heap.size + 1, 0, none⟩ (.int .i64 1)).setCell ⟨w.heap.size + 1, 1, none⟩ (.slice none 0 0)) = Wf at *
                obtain ⟨u0, u1, _, _⟩ := cell_two z1
                refine bodyPost_ret (v := .agg #[.int .i64 1, .slice none 0 0]) (by simp [results, Tryz.results29, go_sem, u0, u1]) rfl ⟨by rw [HP.out], z2⟩
              · have i0 : ¬ via < 0 := by omega
                have i1 : decide (via < 0) = false := decide_eq_false i0
                have i2 : decide ((n : Int) ≤ via) = true := decide_eq_true hv2
                go_wp2_with fail
                refine (E_calls 1 w2).mono ?_
                rintro e w3 ⟨rfl, hb3⟩
                have HB3 : Hid (Below W0.heap.size W0 w3) := HB2.out.trans (hb3.mono HB2.out.size)
                clear hb3 c0 c1 cs r0 r1 f0 f1 rs
                obtain ⟨_, _, cr, _, _⟩ := HG.out w3 HB3.out
                obtain ⟨r0, r1, f0, f1⟩ := cell_two cr
                have rs := lt_of_get cr
                clear cr
                go_wp2
                obtain ⟨z1, z2⟩ := HEND.out w3 (.int .i64 1) HB3.out
                generalize ((w3.setCell ⟨w.heap.size + 1, 0, none⟩ (.int .i64 1)).setCell ⟨w.heap.size + 1, 1, none⟩ (.slice none 0 0)) = Wf at *
                obtain ⟨u0, u1, _, _⟩ := cell_two z1
                refine bodyPost_ret (v := .agg #[.int .i64 1, .slice none 0 0]) (by simp [results, Tryz.results29, go_sem, u0, u1]) rfl ⟨by rw [HP.out], z2⟩
              · obtain ⟨g, rfl, gs, cm⟩ := HCF.out m hm
                rw [hlv] at cm
                have i1 : ¬ ((m : Int) < 0) := by omega
                have i2 : ¬ ((n : Int) ≤ (m : Int)) := by omega
                have i3 : decide (n ≤ m) = false := decide_eq_false (by omega)
                clear hlv
                go_wp2_with fail
                refine (E_calls 1 w2).mono ?_
                rintro e w3 ⟨rfl, hb3⟩
                have HB3 : Hid (Below W0.heap.size W0 w3) := HB2.out.trans (hb3.mono HB2.out.size)
                clear hb3 c0 c1 cs r0 r1 f0 f1 rs cm
                obtain ⟨_, _, cr, _, _⟩ := HG.out w3 HB3.out
                obtain ⟨r0, r1, f0, f1⟩ := cell_two cr
                have rs := lt_of_get cr
                clear cr
                go_wp2
                obtain ⟨z1, z2⟩ := HEND.out w3 (.int .i64 1) HB3.out
                generalize ((w3.setCell ⟨w.heap.size + 1, 0, none⟩ (.int .i64 1)).setCell ⟨w.heap.size + 1, 1, none⟩ (.slice none 0 0)) = Wf at *
                obtain ⟨u0, u1, _, _⟩ := cell_two z1
                refine bodyPost_ret (v := .agg #[.int .i64 1, .slice none 0 0]) (by simp [results, Tryz.results29, go_sem, u0, u1]) rfl ⟨by rw [HP.out], z2⟩
end Go.Proofs.YtnclegldhafaeaaGreatDoor

namespace Go.Proofs.YtnclegldhafaeaaGreatDoor
open Go.RowKit Go.Extern Go.Sort

attribute [local go_sem] Oper.semAt_some

theorem three_new (w : World) (X Y Z : Obj) : (((w.alloc X).alloc Y).alloc Z).heap[w.heap.size]? = some X ∧ (((w.alloc X).alloc Y).alloc Z).heap[w.heap.size + 1]? = some Y ∧ (((w.alloc X).alloc Y).alloc Z).heap[w.heap.size + 1 + 1]? = some Z ∧ Below w.heap.size w (((w.alloc X).alloc Y).alloc Z) := by
  obtain ⟨h1, h2, h3⟩ := two_new w X Y
  refine ⟨?_, ?_, ?_, h3.alloc (by simp; omega) _⟩
  · rw [Below.heap_alloc _ _ _ (by simp; omega)]; exact h1
  · rw [Below.heap_alloc _ _ _ (by simp)]; exact h2
  · have h := heap_new ((w.alloc X).alloc Y) Z
    simpa using h
/-- Put's memory: the overlay's box, the arc's, the answer's, the new overlay's, and its arcs. -/
structure PM (bo : Option Addr) (bl bc : Nat) (ov : Value) (a : A4) (w0 w : World) (X p1 p2 p3 B : Nat) (lv : Value) (L : List A4) : Prop where
  o : w.heap[X]? = some (.cells #[.slice bo bl bc, ov] 40 (0, 0))
  a : w.heap[p1]? = some (.cells #[.int .i64 a.1, .int .i64 a.2.1, .int .u64 a.2.2.1, .int .i64 a.2.2.2] 91 (0, 0))
  r : w.heap[p2]? = some (.cells #[.slice none 0 0, .slice none 0 0] 40 (0, 0))
  p : w.heap[p3]? = some (.cells #[.slice bo bl bc, lv] 40 (0, 0))
  own : w.ownsRow B 91 4 lv L.length (flatA4 L)
  bel : Below X w0 w
  ord : X < p1 ∧ p1 < p2 ∧ p2 < p3 ∧ p3 < B ∧ B ≤ w.heap.size
section
variable {bo : Option Addr} {bl bc X p1 p2 p3 B : Nat} {ov : Value} {a : A4} {w0 w : World} {lv : Value} {L : List A4}
theorem PM.put (h : PM bo bl bc ov a w0 w X p1 p2 p3 B lv L) {w' : World} {lv' : Value} {L' : List A4} (hown : w'.ownsRow B 91 4 lv' L'.length (flatA4 L')) (hgr : w.grownBy w' lv.ownBlock) : PM bo bl bc ov a w0 (w'.setCell ⟨p3, 1, none⟩ lv') X p1 p2 p3 B lv' L' := by
  obtain ⟨o1, o2, o3, o4, o5⟩ := h.ord
  have hk : ∀ j, j < B → w'.heap[j]? = w.heap[j]? := fun j hj => hgr.block j (Nat.lt_of_lt_of_le hj o5) (fun e => by have := (h.own.lt j e.symm).1; omega)
  have hb : Below X w w' := ⟨hgr.os, hgr.tape, hgr.output, hgr.size, fun j hj => hk j (by omega)⟩
  refine ⟨(hso _ (by omega)).trans ((hk X (by omega)).trans h.o), (hso _ (by omega)).trans ((hk p1 (by omega)).trans h.a), (hso _ (by omega)).trans ((hk p2 (by omega)).trans h.r), ?_, row4_keep hown (fun g h1 _ => hso _ (by omega)), h.bel.trans (hb.trans ((Below.refl X w').setCell (p := ⟨p3, 1, none⟩) (show X ≤ p3 by omega) _)), ⟨o1, o2, o3, o4, by have := hgr.size; simp; omega⟩⟩
  rw [hsc_same _ ((hk p3 (by omega)).trans h.p)]
  rfl
theorem PM.grown (h : PM bo bl bc ov a w0 w X p1 p2 p3 B lv L) {w' : World} (hgr : w.grownBy w' lv.ownBlock) : w'.cell? ⟨p3, 1, none⟩ = some lv ∧ w'.frozen? ⟨p3, 1, none⟩ = false ∧ p3 < w'.heap.size := by
  obtain ⟨o1, o2, o3, o4, o5⟩ := h.ord
  have hk : w'.heap[p3]? = w.heap[p3]? := hgr.block p3 (by omega) (fun e => by have := (h.own.lt p3 e.symm).1; omega)
  rw [h.p] at hk
  exact ⟨by simp [World.cell?, hk], by simp [World.frozen?, hk], lt_of_get hk⟩
theorem PM.keep (h : PM bo bl bc ov a w0 w X p1 p2 p3 B lv L) {w' : World} (hb : Below w.heap.size w w') : PM bo bl bc ov a w0 w' X p1 p2 p3 B lv L := by
  obtain ⟨o1, o2, o3, o4, o5⟩ := h.ord
  exact ⟨(hb.block _ (by omega)).trans h.o, (hb.block _ (by omega)).trans h.a, (hb.block _ (by omega)).trans h.r, (hb.block _ (by omega)).trans h.p, row4_keep h.own (fun g _ h1 => hb.block g h1), h.bel.trans (hb.mono (by omega)), ⟨o1, o2, o3, o4, Nat.le_trans o5 hb.size⟩⟩
end
/-- what a Put leaves of the others. -/
def restZ (zs : List A4) (a : A4) : List A4 := zs.filter fun x => !(x.1 == a.1 && x.2.1 == a.2.1)
theorem restZ_succ {zs : List A4} {k : Nat} {z : A4} (hk : zs[k]? = some z) (a : A4) : (z.1 = a.1 ∧ z.2.1 = a.2.1 → restZ (zs.take (k + 1)) a = restZ (zs.take k) a) ∧ (¬ (z.1 = a.1 ∧ z.2.1 = a.2.1) → restZ (zs.take (k + 1)) a = restZ (zs.take k) a ++ [z]) := by
  unfold restZ
  rw [List.take_add_one, hk, List.filter_append]
  constructor
  · intro e
    show _ ++ List.filter _ [z] = _
    rw [List.filter_cons_of_neg (by simp [e.1, e.2])]
    simp
  · intro e
    show _ ++ List.filter _ [z] = _
    rw [List.filter_cons_of_pos (by exact (sameB_iff z a).2 e)]
    simp
/-- there is such an arc that is no dearer; each such arc is dearer. -/
def CheapZ (zs : List A4) (a : A4) : Prop := ∃ z ∈ zs, z.1 = a.1 ∧ z.2.1 = a.2.1 ∧ z.2.2.1 ≤ a.2.2.1
def DearZ (zs : List A4) (a : A4) : Prop := ∀ z ∈ zs, z.1 = a.1 → z.2.1 = a.2.1 → a.2.2.1 < z.2.2.1
theorem restZ_len (zs : List A4) (a : A4) : (restZ zs a).length ≤ zs.length := List.length_filter_le _ _

set_option maxRecDepth 100000 in
set_option maxHeartbeats 8000000 in
theorem rPutA11_calls (bo : Option Addr) (bl bc : Nat) (ao : Option Addr) (cap : Nat) (zs : List A4) (a : A4) (w : World) (hA : HasA4 w (.slice ao zs.length cap) zs) (hz : zs.length ≤ 262144) :
    Calls Tryz.prog 30 #[.agg #[.slice bo bl bc, .slice ao zs.length cap], .agg #[.int .i64 a.1, .int .i64 a.2.1, .int .u64 a.2.2.1, .int .i64 a.2.2.2]] w fun e w' => Below w.heap.size w w' ∧
      ((CheapZ zs a ∧ e = .returned (.tuple #[.agg #[.slice bo bl bc, .slice ao zs.length cap], .bool false])) ∨
       (DearZ zs a ∧ ∃ so sc, e = .returned (.tuple #[.agg #[.slice bo bl bc, .slice so (putZ zs a).length sc], .bool true]) ∧ w'.ownsRow w.heap.size 91 4 (.slice so (putZ zs a).length sc) (putZ zs a).length (flatA4 (putZ zs a)))) := by
  have HA : Hid (∀ wx, Below w.heap.size w wx → HasA4 wx (.slice ao zs.length cap) zs) := fun wx h => hA.keep h
  obtain ⟨a0, a1, a2, a3⟩ := a
  simp only
  obtain ⟨s0, s1, s2, sB⟩ := three_new w (.cells #[.slice bo bl bc, .slice ao zs.length cap] 40) (.cells #[.int .i64 a0, .int .i64 a1, .int .u64 a2, .int .i64 a3] 91) (.cells #[.slice none 0 0, .slice none 0 0] 40)
  obtain ⟨c0, c1, _, _⟩ := cell_two s0
  have cs := lt_of_get s0
  obtain ⟨W3, hW3⟩ : ∃ W3, (((w.alloc (.cells #[.slice bo bl bc, .slice ao zs.length cap] 40)).alloc (.cells #[.int .i64 a0, .int .i64 a1, .int .u64 a2, .int .i64 a3] 91)).alloc (.cells #[.slice none 0 0, .slice none 0 0] 40)) = W3 := ⟨_, rfl⟩
  rw [hW3] at s0 s1 s2 sB c0 c1 cs
  have HW3 : Hid ((((w.alloc (.cells #[.slice bo bl bc, .slice ao zs.length cap] 40)).alloc (.cells #[.int .i64 a0, .int .i64 a1, .int .u64 a2, .int .i64 a3] 91)).alloc (.cells #[.slice none 0 0, .slice none 0 0] 40)) = W3) := hW3
  have hsz : W3.heap.size = w.heap.size + 1 + 1 + 1 := by rw [← hW3]; simp
  have hb4 : Below W3.heap.size W3 (W3.alloc (.cells #[.slice bo bl bc, .slice none 0 0] 40)) := bel_one _ _
  have HPM : Hid (PM bo bl bc (.slice ao zs.length cap) (a0, a1, a2, a3) w (W3.alloc (.cells #[.slice bo bl bc, .slice none 0 0] 40)) w.heap.size (w.heap.size + 1) (w.heap.size + 1 + 1) W3.heap.size (W3.heap.size + 1) (.slice none 0 0) []) :=
    ⟨(hb4.block _ (lt_of_get s0)).trans s0, (hb4.block _ (lt_of_get s1)).trans s1, (hb4.block _ (lt_of_get s2)).trans s2, heap_new _ _, World.ownsRow_nil _ _ _ _, sB.trans (hb4.mono sB.size), by omega, by omega, by omega, by omega, by simp⟩
  clear hW3 hb4 s0 s1 s2 sB hA hsz
  go_enter Tryz.func30, Tryz.ntmps30
  go_upto_region 1 with fail
  rw [HW3.out]
  go_upto_region 3 with fail
  generalize (W3.alloc (.cells #[.slice bo bl bc, .slice none 0 0] 40)) = W4 at *
  generalize W3.heap.size + 1 = B at *
  generalize W3.heap.size = p3 at *
  generalize w.heap.size + 1 + 1 = p2 at *
  generalize w.heap.size + 1 = p1 at *
  clear c0 c1 cs HW3
  obtain ⟨c0, c1, _, _⟩ := cell_two HPM.out.o
  have cs := lt_of_get HPM.out.o
  go_wp2_with fail
  clear c0 c1 cs
  go_loopw [16] (fun iv wr => ∃ (k : Nat) (so : Option Addr) (sc : Nat), k ≤ zs.length ∧ iv = .int .i64 (k : Nat) ∧ PM bo bl bc (.slice ao zs.length cap) (a0, a1, a2, a3) w wr w.heap.size p1 p2 p3 B (.slice so (restZ (zs.take k) (a0, a1, a2, a3)).length sc) (restZ (zs.take k) (a0, a1, a2, a3)) ∧ ∀ z ∈ zs.take k, z.1 = a0 → z.2.1 = a1 → a2 < z.2.2.1) (fun iv _ => zs.length - (intOf iv).toNat)
  case atStart => exact ⟨0, none, 0, Nat.zero_le _, rfl, HPM.out, fun z hz => by simp at hz⟩
  case round =>
    obtain ⟨k, so, sc, hk, rfl, hM, hdear⟩ := hrel
    by_cases hlt : k < zs.length
    · obtain ⟨z, hzk⟩ : ∃ z, zs[k]? = some z := ⟨zs[k], List.getElem?_eq_getElem hlt⟩
      obtain ⟨lb, lof, rfl, ll, q0, q1, q2, q3⟩ := (HA.out wr hM.bel).at hzk
      obtain ⟨hs1, hs2⟩ := restZ_succ hzk (a0, a1, a2, a3)
      have hle : (restZ (zs.take k) (a0, a1, a2, a3)).length ≤ 262144 := Nat.le_trans (restZ_len _ _) (by rw [List.length_take]; omega)
      have hmem : ∀ x ∈ zs.take (k + 1), x ∈ zs.take k ∨ x = z := fun x hx => by
        rw [List.take_add_one, hzk] at hx
        simpa using hx
      have hzm : z ∈ zs := List.mem_of_getElem? hzk
      obtain ⟨z0, z1, z2, z3⟩ := z
      simp only at q0 q1 q2 q3 hs1 hs2
      obtain ⟨L, hL⟩ : ∃ L, restZ (zs.take k) (a0, a1, a2, a3) = L := ⟨_, rfl⟩
      rw [hL] at hM hs1 hs2 hle
      obtain ⟨Wa, hWa⟩ : ∃ Wa, wr.alloc (.cells #[.int .i64 z0, .int .i64 z1, .int .u64 z2, .int .i64 z3] 91) = Wa := ⟨_, rfl⟩
      have HWA : Hid (wr.alloc (.cells #[.int .i64 z0, .int .i64 z1, .int .u64 z2, .int .i64 z3] 91) = Wa) := hWa
      have hnew : Wa.heap[wr.heap.size]? = some (.cells #[.int .i64 z0, .int .i64 z1, .int .u64 z2, .int .i64 z3] 91) := by rw [← hWa]; exact heap_new _ _
      have hMa := hM.keep (w' := Wa) (by rw [← hWa]; exact bel_one _ _)
      have HMA : Hid (type_of% hMa) := hMa
      have hMb := hMa.keep (bel_one Wa (.cells #[.int .i64 z0, .int .i64 z1, .int .u64 z2, .int .i64 z3] 91))
      have HMB : Hid (type_of% hMb) := hMb
      have HON : Hid (type_of% (a4_one Wa (z0, z1, z2, z3) 91)) := a4_one Wa (z0, z1, z2, z3) 91
      have n0 : Wa.cell? ⟨wr.heap.size, 0, none⟩ = some (.int .i64 z0) := by simp [World.cell?, hnew]
      have n1 : Wa.cell? ⟨wr.heap.size, 1, none⟩ = some (.int .i64 z1) := by simp [World.cell?, hnew]
      have n2 : Wa.cell? ⟨wr.heap.size, 2, none⟩ = some (.int .u64 z2) := by simp [World.cell?, hnew]
      have n3 : Wa.cell? ⟨wr.heap.size, 3, none⟩ = some (.int .i64 z3) := by simp [World.cell?, hnew]
      have ns : wr.heap.size < Wa.heap.size := lt_of_get hnew
      have m0 : Wa.cell? ⟨p1, 0, none⟩ = some (.int .i64 a0) := by simp [World.cell?, hMa.a]
      have m1 : Wa.cell? ⟨p1, 1, none⟩ = some (.int .i64 a1) := by simp [World.cell?, hMa.a]
      have m2 : Wa.cell? ⟨p1, 2, none⟩ = some (.int .u64 a2) := by simp [World.cell?, hMa.a]
      have ms : p1 < Wa.heap.size := lt_of_get hMa.a
      obtain ⟨d0, d1, _, _⟩ := cell_two hMa.p
      have ds := lt_of_get hMa.p
      have t1 : (k : Int) < (zs.length : Int) := by omega
      have t2 : (0 : Int) ≤ (k : Int) := by omega
      clear hzk hL hWa hnew hM hMa hMb
      by_cases hsame : z0 = a0 ∧ z1 = a1
      · have HS1 : Hid (restZ (zs.take (k + 1)) (a0, a1, a2, a3) = L) := hs1 hsame
        obtain ⟨rfl, rfl⟩ := hsame
        clear hs1 hs2
        by_cases hwz : z2 ≤ a2
        · have bwz : decide (z2 ≤ a2) = true := decide_eq_true hwz
          have HEX : Hid (CheapZ zs (z0, z1, a2, a3)) := ⟨_, hzm, rfl, rfl, hwz⟩
          obtain ⟨e0, e1, _, _⟩ := cell_two HMA.out.o
          have es := lt_of_get HMA.out.o
          obtain ⟨r0, r1, f0, f1⟩ := cell_two HMA.out.r
          have rs := lt_of_get HMA.out.r
          have o1 : w.heap.size ≠ p2 := by have := HMA.out.ord; omega
          have o2 : p2 ≠ w.heap.size := by have := HMA.out.ord; omega
          clear hdear hmem hzm
          go_upto_region 6 with fail
          rw [HWA.out]
          go_wp2
          have y1 := two_set (v0 := .slice bo bl bc) (v1 := .slice (some ⟨lb, lof, none⟩) zs.length cap) HMA.out.r
          have y2 : Below w.heap.size w ((Wa.setCell ⟨p2, 0, none⟩ (.slice bo bl bc)).setCell ⟨p2, 1, none⟩ (.slice (some ⟨lb, lof, none⟩) zs.length cap)) := HMA.out.bel.trans (two_below (by have := HMA.out.ord; omega))
          generalize ((Wa.setCell ⟨p2, 0, none⟩ (.slice bo bl bc)).setCell ⟨p2, 1, none⟩ (.slice (some ⟨lb, lof, none⟩) zs.length cap)) = Wf at *
          obtain ⟨u0, u1, _, _⟩ := cell_two y1
          refine bodyPost_ret (v := .tuple #[.agg #[.slice bo bl bc, .slice (some ⟨lb, lof, none⟩) zs.length cap], .bool false]) (by simp [results, Tryz.results30, go_sem, u0, u1]) rfl ⟨y2, Or.inl ⟨HEX.out, rfl⟩⟩
        · have bwz : decide (z2 ≤ a2) = false := decide_eq_false hwz
          have HD : Hid (∀ x ∈ zs.take (k + 1), x.1 = z0 → x.2.1 = z1 → a2 < x.2.2.1) := fun x hx e0 e1 => by
            rcases hmem x hx with h | rfl
            · exact hdear x h e0 e1
            · show a2 < z2; omega
          clear hdear hmem hzm
          go_upto_region 6 with fail
          rw [HWA.out]
          go_wp2
          go_roundw
          case rel => exact ⟨k + 1, so, sc, by omega, by go_num, by rw [HS1.out]; exact HMA.out, HD.out⟩
          case measure => simp [intOf]; omega
      · have HS2 : Hid (restZ (zs.take (k + 1)) (a0, a1, a2, a3) = L ++ [(z0, z1, z2, z3)]) := hs2 hsame
        have HD : Hid (∀ x ∈ zs.take (k + 1), x.1 = a0 → x.2.1 = a1 → a2 < x.2.2.1) := fun x hx e0 e1 => by
          rcases hmem x hx with h | rfl
          · exact hdear x h e0 e1
          · exact absurd ⟨e0, e1⟩ hsame
        clear hs1 hs2 hdear hmem hzm
        by_cases e0 : z0 = a0
        · have b1 : (z1 == a1) = false := beq_eq_false_iff_ne.2 (fun e => hsame ⟨e0, e⟩)
          clear hsame
          subst e0
          go_upto_region 6 with fail
          rw [HWA.out]
          go_wp2_with (at_builtin; refine wpList_append_a4 rfl _ _ rfl B (.slice so L.length sc) L rfl HMB.out.own ⟨Wa.heap.size, 0, none⟩ 1 [(z0, z1, z2, z3)] rfl HON.out (by simp only [List.length_cons, List.length_nil]; omega) HMB.out.ord.2.2.2.2 ?_; intro v' w' hown hgr; obtain ⟨ro, rc, hv⟩ := row4_slice hown; subst hv; obtain ⟨x1, x2, x3⟩ := HMB.out.grown hgr; have Y : Hid (type_of% (HMB.out.put hown hgr)) := HMB.out.put hown hgr; clear hown hgr; generalize L ++ [(z0, z1, z2, z3)] = L2 at *)
          go_roundw
          case rel => exact ⟨k + 1, ro, rc, by omega, by go_num, by rw [HS2.out]; exact Y.out, HD.out⟩
          case measure => simp [intOf]; omega
        · have b0 : (z0 == a0) = false := beq_eq_false_iff_ne.2 e0
          clear hsame e0
          go_upto_region 6 with fail
          rw [HWA.out]
          go_wp2_with (at_builtin; refine wpList_append_a4 rfl _ _ rfl B (.slice so L.length sc) L rfl HMB.out.own ⟨Wa.heap.size, 0, none⟩ 1 [(z0, z1, z2, z3)] rfl HON.out (by simp only [List.length_cons, List.length_nil]; omega) HMB.out.ord.2.2.2.2 ?_; intro v' w' hown hgr; obtain ⟨ro, rc, hv⟩ := row4_slice hown; subst hv; obtain ⟨x1, x2, x3⟩ := HMB.out.grown hgr; have Y : Hid (type_of% (HMB.out.put hown hgr)) := HMB.out.put hown hgr; clear hown hgr; generalize L ++ [(z0, z1, z2, z3)] = L2 at *)
          go_roundw
          case rel => exact ⟨k + 1, ro, rc, by omega, by go_num, by rw [HS2.out]; exact Y.out, HD.out⟩
          case measure => simp [intOf]; omega
    · obtain rfl : k = zs.length := by omega
      rw [List.take_length] at hM hdear
      have HD : Hid (DearZ zs (a0, a1, a2, a3)) := hdear
      have HLE : (restZ zs (a0, a1, a2, a3)).length ≤ 262144 := Nat.le_trans (restZ_len _ _) hz
      have HPA : Hid (putZ zs (a0, a1, a2, a3) = restZ zs (a0, a1, a2, a3) ++ [(a0, a1, a2, a3)]) := rfl
      generalize restZ zs (a0, a1, a2, a3) = L at *
      have hMb := hM.keep (bel_one wr (.cells #[.int .i64 a0, .int .i64 a1, .int .u64 a2, .int .i64 a3] 91))
      have HMB : Hid (type_of% hMb) := hMb
      have HON : Hid (type_of% (a4_one wr (a0, a1, a2, a3) 91)) := a4_one wr (a0, a1, a2, a3) 91
      have m0 : wr.cell? ⟨p1, 0, none⟩ = some (.int .i64 a0) := by simp [World.cell?, hM.a]
      have m1 : wr.cell? ⟨p1, 1, none⟩ = some (.int .i64 a1) := by simp [World.cell?, hM.a]
      have m2 : wr.cell? ⟨p1, 2, none⟩ = some (.int .u64 a2) := by simp [World.cell?, hM.a]
      have m3 : wr.cell? ⟨p1, 3, none⟩ = some (.int .i64 a3) := by simp [World.cell?, hM.a]
      have ms : p1 < wr.heap.size := lt_of_get hM.a
      obtain ⟨d0, d1, _, _⟩ := cell_two hM.p
      have ds := lt_of_get hM.p
      clear hM hMb hdear
      go_upto_region 12 with (at_builtin; refine wpList_append_a4 rfl _ _ rfl B (.slice so L.length sc) L rfl HMB.out.own ⟨wr.heap.size, 0, none⟩ 1 [(a0, a1, a2, a3)] rfl HON.out (by simp only [List.length_cons, List.length_nil]; omega) HMB.out.ord.2.2.2.2 ?_; intro v' w' hown hgr; obtain ⟨ro, rc, hv⟩ := row4_slice hown; subst hv; obtain ⟨x1, x2, x3⟩ := HMB.out.grown hgr; have Y : Hid (type_of% (HMB.out.put hown hgr)) := HMB.out.put hown hgr; clear hown hgr; generalize L ++ [(a0, a1, a2, a3)] = L2 at *)
      generalize (w'.setCell ⟨p3, 1, none⟩ (.slice ro L2.length rc)) = Wp at *
      clear x1 x2 x3 d0 d1 ds m0 m1 m2 m3 ms
      obtain ⟨e0, e1, _, _⟩ := cell_two Y.out.p
      have es := lt_of_get Y.out.p
      obtain ⟨r0, r1, f0, f1⟩ := cell_two Y.out.r
      have rs := lt_of_get Y.out.r
      have o1 : p3 ≠ p2 := by have := Y.out.ord; omega
      have o2 : p2 ≠ p3 := by have := Y.out.ord; omega
      go_wp2
      have y1 := two_set (v0 := .slice bo bl bc) (v1 := .slice ro L2.length rc) Y.out.r
      have y2 : Below w.heap.size w ((Wp.setCell ⟨p2, 0, none⟩ (.slice bo bl bc)).setCell ⟨p2, 1, none⟩ (.slice ro L2.length rc)) := Y.out.bel.trans (two_below (by have := Y.out.ord; omega))
      have y3 : ((Wp.setCell ⟨p2, 0, none⟩ (.slice bo bl bc)).setCell ⟨p2, 1, none⟩ (.slice ro L2.length rc)).ownsRow w.heap.size 91 4 (.slice ro L2.length rc) L2.length (flatA4 L2) := by
        have o := Y.out.ord
        exact row4_base (row4_keep Y.out.own (fun g h1 _ => (hso _ (by omega)).trans (hso _ (by omega)))) (by omega)
      generalize ((Wp.setCell ⟨p2, 0, none⟩ (.slice bo bl bc)).setCell ⟨p2, 1, none⟩ (.slice ro L2.length rc)) = Wf at *
      obtain ⟨u0, u1, _, _⟩ := cell_two y1
      refine bodyPost_ret (v := .tuple #[.agg #[.slice bo bl bc, .slice ro L2.length rc], .bool true]) (by simp [results, Tryz.results30, go_sem, u0, u1]) rfl ⟨y2, Or.inr ⟨HD.out, ro, rc, ?_, ?_⟩⟩
      · rw [HPA.out]
      · rw [HPA.out]; exact y3
end Go.Proofs.YtnclegldhafaeaaGreatDoor

namespace Go.Proofs.YtnclegldhafaeaaGreatDoor
open Go.RowKit Go.Extern Go.Sort

attribute [local go_sem] Oper.semAt_some

theorem rowX_keep {w w' : World} {base e size n : Nat} {xs : List Value} {v : Value} (h : w.ownsRow base e size v n xs) (hk : ∀ g, v.ownBlock = some g → w'.heap[g]? = w.heap[g]?) : w'.ownsRow base e size v n xs := by
  obtain ⟨h1, h2⟩ := h
  refine ⟨h1, ?_⟩
  rcases h2 with h2 | ⟨g, cap, cur, e, hb, hh, r⟩
  · exact Or.inl h2
  · subst e
    exact Or.inr ⟨g, cap, cur, rfl, hb, (hk g rfl).trans hh, r⟩
theorem row_at {w w' : World} {K e size n fb fc : Nat} {xs : List Value} (h : w.ownsRow K e size (.slice (some ⟨fb, 0, none⟩) n fc) n xs) (hk : w'.heap[fb]? = w.heap[fb]?) : w'.ownsRow K e size (.slice (some ⟨fb, 0, none⟩) n fc) n xs := rowX_keep h (fun g e => by
  have e' : fb = g := by simpa [Value.ownBlock] using e
  rw [← e']
  exact hk)
theorem addr_inj {g g' : Nat} (e : (some ⟨g, 0, none⟩ : Option Addr) = some ⟨g', 0, none⟩) : g = g' := congrArg (fun o => (o.getD ⟨0, 0, none⟩).block) e
theorem rowX_base {w : World} {base base' e size n : Nat} {xs : List Value} {v : Value} (h : w.ownsRow base e size v n xs) (hb : base' ≤ base) : w.ownsRow base' e size v n xs := by
  obtain ⟨h1, h2⟩ := h
  refine ⟨h1, ?_⟩
  rcases h2 with h2 | ⟨g, cap, cur, e, h3, r⟩
  · exact Or.inl h2
  · exact Or.inr ⟨g, cap, cur, e, Nat.le_trans hb h3, r⟩
theorem Tryz.infoBo : (Tryz.prog.info? 4).map (fun i => (i.zero, i.size, i.bytes)) = some (some (.bool false), 1, 1) := by kernel_rfl
theorem fl_of_row {w : World} {base n : Nat} {v : Value} {bs : List Bool} (hl : bs.length = n) (h : w.ownsRow base 4 1 v n (bs.map Value.bool)) : HasFl w v bs := by
  subst hl
  rcases h.2 with ⟨e, h0⟩ | ⟨g, cap, cur, rfl, hg, hh, _⟩
  · exact ⟨none, 0, by rw [e, h0], fun m hm => by omega⟩
  · refine ⟨_, cap, rfl, fun m hm => ⟨g, rfl, lt_of_get hh, ?_⟩⟩
    rw [h.cellAt m (by omega), List.getElem?_map, List.getElem?_eq_getElem hm]
    unfold liv
    rw [List.getElem?_eq_getElem hm]
    rfl
/-- append of flags onto nothing. -/
theorem wpList_append_fl {w : World} {ops : Array Oper} {rest : List Oper} {o : Oper} {a : Act} {Q : Exit → Act → World → Prop} (hgd : o.guard = none) (s x : Operand)
    (ho : o.op = .call { callee := .builtin .append, args := #[s, x], argTypes := #[37, 37] })
    (hs : a.eval s = .slice none 0 0) (g n c : Nat) (bs : List Bool) (hl : bs.length = n) (hn0 : 0 < n) (hn : n ≤ 65536) (hx : a.eval x = .slice (some ⟨g, 0, none⟩) n c) (hf : HasFl w (.slice (some ⟨g, 0, none⟩) n c) bs)
    (h : ∀ fb fc w', w.heap.size ≤ fb → w'.ownsRow w.heap.size 4 1 (.slice (some ⟨fb, 0, none⟩) n fc) n (bs.map Value.bool) → Below w.heap.size w w' → wpList Tryz.prog ops Q rest (a.put o.dst (.slice (some ⟨fb, 0, none⟩) n fc)) w') : wpList Tryz.prog ops Q (o :: rest) a w := by
  obtain ⟨i0, hi, hz0, hz1, hz2⟩ : ∃ i, Tryz.prog.info? 4 = some i ∧ i.zero = some (.bool false) ∧ i.size = 1 ∧ i.bytes = 1 := by
    have h := Tryz.infoBo
    cases hi : Tryz.prog.info? 4 with
    | none => rw [hi] at h; cases h
    | some i => rw [hi] at h; simp at h; exact ⟨i, rfl, h.1, h.2.1, h.2.2⟩
  refine wpList_append_own _ hgd s x 37 ho w.heap.size 4 i0 _ 1 1 Tryz.underlying37 hi hz0 hz1 hz2 rfl (by decide) (.slice none 0 0) 0 [] hs (World.ownsRow_nil _ _ _ _) ⟨g, 0, none⟩ n c (bs.map Value.bool) hx (by simp [hl]) ?_ ?_ (by unfold maxLen; omega) (by omega) (Nat.le_refl _) ?_
  · intro j u hj
    have hlt := (List.getElem?_eq_some_iff.1 hj).1
    rw [List.length_map] at hlt
    obtain ⟨g', e, _, hc⟩ := hf.at hlt
    obtain rfl := addr_inj e
    have ea : (⟨g, 0, none⟩ : Addr).add j = ⟨g, j, none⟩ := by unfold Addr.add; split <;> simp_all
    rw [ea, hc]
    rw [List.getElem?_map, List.getElem?_eq_getElem hlt] at hj
    unfold liv
    rw [List.getElem?_eq_getElem hlt]
    exact hj
  · intro u hu
    obtain ⟨b, _, rfl⟩ := List.mem_map.1 hu
    rfl
  · intro v' w' h1 h2 h3
    have h1' : w'.ownsRow w.heap.size 4 1 v' n (bs.map Value.bool) := by simpa using h1
    have hb : Below w.heap.size w w' := ⟨h2.os, h2.tape, h2.output, h2.size, fun j hj => h2.block j hj (by simp [Value.ownBlock])⟩
    rcases h1'.2 with ⟨e, h0⟩ | ⟨fb, fc, cur, rfl, hg, hh, _⟩
    · omega
    · exact h fb fc w' hg h1' hb
/-- Remove's memory: the overlay's box, the answer's, the new overlay's, its flags and its arcs. -/
structure RM (fv ov : Value) (n : Nat) (fs : List Value) (w0 w : World) (X p1 p2 fb fc B : Nat) (lv : Value) (L : List A4) : Prop where
  o : w.heap[X]? = some (.cells #[fv, ov] 40 (0, 0))
  r : w.heap[p1]? = some (.cells #[.slice none 0 0, .slice none 0 0] 40 (0, 0))
  p : w.heap[p2]? = some (.cells #[.slice (some ⟨fb, 0, none⟩) n fc, lv] 40 (0, 0))
  fl : w.ownsRow X 4 1 (.slice (some ⟨fb, 0, none⟩) n fc) n fs
  own : w.ownsRow B 91 4 lv L.length (flatA4 L)
  bel : Below X w0 w
  ord : X < p1 ∧ p1 < p2 ∧ p2 < fb ∧ fb < B ∧ B ≤ w.heap.size
section
variable {n X p1 p2 fb fc B : Nat} {fv ov : Value} {fs : List Value} {w0 w : World} {lv : Value} {L : List A4}
theorem RM.put (h : RM fv ov n fs w0 w X p1 p2 fb fc B lv L) {w' : World} {lv' : Value} {L' : List A4} (hown : w'.ownsRow B 91 4 lv' L'.length (flatA4 L')) (hgr : w.grownBy w' lv.ownBlock) : RM fv ov n fs w0 (w'.setCell ⟨p2, 1, none⟩ lv') X p1 p2 fb fc B lv' L' := by
  obtain ⟨o1, o2, o3, o4, o5⟩ := h.ord
  have hk : ∀ j, j < B → w'.heap[j]? = w.heap[j]? := fun j hj => hgr.block j (Nat.lt_of_lt_of_le hj o5) (fun e => by have := (h.own.lt j e.symm).1; omega)
  have hb : Below X w w' := ⟨hgr.os, hgr.tape, hgr.output, hgr.size, fun j hj => hk j (by omega)⟩
  refine ⟨(hso _ (by omega)).trans ((hk X (by omega)).trans h.o), (hso _ (by omega)).trans ((hk p1 (by omega)).trans h.r), ?_, row_at h.fl ?_, row4_keep hown (fun g h1 _ => hso _ (by omega)), h.bel.trans (hb.trans ((Below.refl X w').setCell (p := ⟨p2, 1, none⟩) (show X ≤ p2 by omega) _)), ⟨o1, o2, o3, o4, by have := hgr.size; simp; omega⟩⟩
  · rw [hsc_same _ ((hk p2 (by omega)).trans h.p)]
    rfl
  · exact (hso _ (by omega)).trans (hk _ (by omega))
theorem RM.grown (h : RM fv ov n fs w0 w X p1 p2 fb fc B lv L) {w' : World} (hgr : w.grownBy w' lv.ownBlock) : w'.cell? ⟨p2, 1, none⟩ = some lv ∧ w'.frozen? ⟨p2, 1, none⟩ = false ∧ p2 < w'.heap.size := by
  obtain ⟨o1, o2, o3, o4, o5⟩ := h.ord
  have hk : w'.heap[p2]? = w.heap[p2]? := hgr.block p2 (by omega) (fun e => by have := (h.own.lt p2 e.symm).1; omega)
  rw [h.p] at hk
  exact ⟨by simp [World.cell?, hk], by simp [World.frozen?, hk], lt_of_get hk⟩
theorem RM.keep (h : RM fv ov n fs w0 w X p1 p2 fb fc B lv L) {w' : World} (hb : Below w.heap.size w w') : RM fv ov n fs w0 w' X p1 p2 fb fc B lv L := by
  obtain ⟨o1, o2, o3, o4, o5⟩ := h.ord
  refine ⟨(hb.block _ (by omega)).trans h.o, (hb.block _ (by omega)).trans h.r, (hb.block _ (by omega)).trans h.p, row_at h.fl ?_, row4_keep h.own (fun g _ h1 => hb.block g h1), h.bel.trans (hb.mono (by omega)), ⟨o1, o2, o3, o4, Nat.le_trans o5 hb.size⟩⟩
  exact hb.block _ (by omega)
end
theorem remZ_succ {zs : List A4} {k : Nat} {z : A4} (hk : zs[k]? = some z) (x : Int) : (z.1 = x ∨ z.2.1 = x → remZ (zs.take (k + 1)) x = remZ (zs.take k) x) ∧ (¬ (z.1 = x ∨ z.2.1 = x) → remZ (zs.take (k + 1)) x = remZ (zs.take k) x ++ [z]) := by
  unfold remZ
  rw [List.take_add_one, hk, List.filter_append]
  constructor
  · intro e
    show _ ++ List.filter _ [z] = _
    rw [List.filter_cons_of_neg (by simp; intro h1; exact e.resolve_left h1)]
    simp
  · intro e
    obtain ⟨e1, e2⟩ := not_or.1 e
    show _ ++ List.filter _ [z] = _
    rw [List.filter_cons_of_pos (by simp [e1, e2])]
    simp
theorem remZ_len (zs : List A4) (x : Int) : (remZ zs x).length ≤ zs.length := List.length_filter_le _ _

set_option maxRecDepth 100000 in
set_option maxHeartbeats 8000000 in
theorem rRemove11_calls (fo : Option Addr) (n c : Nat) (bs : List Bool) (hl : bs.length = n) (hn : n ≤ 65536) (ao : Option Addr) (cap : Nat) (zs : List A4) (u : Nat) (hu : u < n) (w : World) (hF : HasFl w (.slice fo n c) bs) (hA : HasA4 w (.slice ao zs.length cap) zs) (hz : zs.length ≤ 262144) :
    Calls Tryz.prog 32 #[.agg #[.slice fo n c, .slice ao zs.length cap], .int .i64 (u : Int)] w fun e w' => Below w.heap.size w w' ∧ ∃ fb fc so sc, e = .returned (.agg #[.slice (some ⟨fb, 0, none⟩) n fc, .slice so (remZ zs (u : Int)).length sc]) ∧ w'.ownsRow w.heap.size 4 1 (.slice (some ⟨fb, 0, none⟩) n fc) n ((bs.set u false).map Value.bool) ∧ w'.ownsRow w.heap.size 91 4 (.slice so (remZ zs (u : Int)).length sc) (remZ zs (u : Int)).length (flatA4 (remZ zs (u : Int))) := by
  obtain ⟨g, rfl, _, _⟩ := hF.at (m := u) (by omega)
  have HA : Hid (∀ wx, Below w.heap.size w wx → HasA4 wx (.slice ao zs.length cap) zs) := fun wx h => hA.keep h
  obtain ⟨s0, s1, s2, sB⟩ := three_new w (.cells #[.slice (some ⟨g, 0, none⟩) n c, .slice ao zs.length cap] 40) (.cells #[.slice none 0 0, .slice none 0 0] 40) (.cells #[.slice none 0 0, .slice none 0 0] 40)
  obtain ⟨W3, hW3⟩ : ∃ W3, (((w.alloc (.cells #[.slice (some ⟨g, 0, none⟩) n c, .slice ao zs.length cap] 40)).alloc (.cells #[.slice none 0 0, .slice none 0 0] 40)).alloc (.cells #[.slice none 0 0, .slice none 0 0] 40)) = W3 := ⟨_, rfl⟩
  rw [hW3] at s0 s1 s2 sB
  have HW3 : Hid ((((w.alloc (.cells #[.slice (some ⟨g, 0, none⟩) n c, .slice ao zs.length cap] 40)).alloc (.cells #[.slice none 0 0, .slice none 0 0] 40)).alloc (.cells #[.slice none 0 0, .slice none 0 0] 40)) = W3) := hW3
  have hsz : W3.heap.size = w.heap.size + 1 + 1 + 1 := by rw [← hW3]; simp
  have HSZ : Hid (W3.heap.size = w.heap.size + 1 + 1 + 1) := hsz
  obtain ⟨c0, c1, _, _⟩ := cell_two s0
  have cs := lt_of_get s0
  obtain ⟨d0, d1, d2, d3⟩ := cell_two s2
  have ds := lt_of_get s2
  have HS : Hid (W3.heap[w.heap.size]? = some (.cells #[.slice (some ⟨g, 0, none⟩) n c, .slice ao zs.length cap] 40 (0, 0)) ∧ W3.heap[w.heap.size + 1]? = some (.cells #[.slice none 0 0, .slice none 0 0] 40 (0, 0)) ∧ W3.heap[w.heap.size + 1 + 1]? = some (.cells #[.slice none 0 0, .slice none 0 0] 40 (0, 0)) ∧ Below w.heap.size w W3 ∧ HasFl W3 (.slice (some ⟨g, 0, none⟩) n c) bs) := ⟨s0, s1, s2, sB, hF.keep sB⟩
  have HL : Hid (bs.length = n) := hl
  have i1 : (u : Int) < (n : Int) := by omega
  have i2 : (0 : Int) ≤ (u : Int) := by omega
  have hn0 : 0 < n := by omega
  clear hW3 s0 s1 s2 sB hA hF hsz hl
  go_enter Tryz.func32, Tryz.ntmps32
  go_upto_region 2 with fail
  rw [HW3.out]
  clear HW3
  have o1 : w.heap.size ≠ w.heap.size + 1 + 1 := by omega
  have o2 : w.heap.size + 1 + 1 ≠ w.heap.size := by omega
  go_upto_region 3 with (at_builtin; refine wpList_append_fl rfl _ _ rfl rfl g n c bs HL.out hn0 hn rfl HS.out.2.2.2.2 ?_; intro fb fc w1 hfb hown hb1; have Y1 : Hid (W3.heap.size ≤ fb ∧ w1.ownsRow W3.heap.size 4 1 (.slice (some ⟨fb, 0, none⟩) n fc) n (bs.map Value.bool) ∧ Below W3.heap.size W3 w1) := ⟨hfb, hown, hb1⟩; have hp1 := (hb1.block _ (lt_of_get HS.out.2.2.1)).trans HS.out.2.2.1; clear c0 c1 cs d0 d1 d2 d3 ds hfb hown hb1; obtain ⟨d0, d1, d2, d3⟩ := cell_two hp1; have ds := lt_of_get hp1; clear hp1)
  have hRM : RM (.slice (some ⟨g, 0, none⟩) n c) (.slice ao zs.length cap) n ((bs.set u false).map Value.bool) w ((w1.setCell ⟨w.heap.size + 1 + 1, 0, none⟩ (.slice (some ⟨fb, 0, none⟩) n fc)).setCell ⟨fb, u, none⟩ (.bool false)) w.heap.size (w.heap.size + 1) (w.heap.size + 1 + 1) fb fc w1.heap.size (.slice none 0 0) [] := by
    obtain ⟨y0, y1, y2⟩ := Y1.out
    obtain ⟨s0, s1, s2, sB, _⟩ := HS.out
    have hsz := HSZ.out
    have hfl := (y1.lt fb rfl).2
    have h2 := (hso (w := w1) (b := w.heap.size + 1 + 1) (o := 0) (j := fb) (.slice (some ⟨fb, 0, none⟩) n fc) (by omega))
    have hw := row_at (w' := w1.setCell ⟨w.heap.size + 1 + 1, 0, none⟩ (.slice (some ⟨fb, 0, none⟩) n fc)) y1 h2
    have hst := (hw.stored u (.bool false)).1
    rw [← List.map_set] at hst
    refine ⟨?_, ?_, ?_, rowX_base hst (by omega), World.ownsRow_nil _ _ _ _, ?_, by omega, by omega, by omega, hfl, by simp⟩
    · rw [hso _ (by omega), hso _ (by omega)]; exact (y2.block _ (lt_of_get s0)).trans s0
    · rw [hso _ (by omega), hso _ (by omega)]; exact (y2.block _ (lt_of_get s1)).trans s1
    · rw [hso _ (by omega), hsc_same _ ((y2.block _ (lt_of_get s2)).trans s2)]; rfl
    · exact (sB.trans (y2.mono (by omega))).trans (((Below.refl _ w1).setCell (p := ⟨w.heap.size + 1 + 1, 0, none⟩) (show w.heap.size ≤ w.heap.size + 1 + 1 by omega) _).setCell (p := ⟨fb, u, none⟩) (show w.heap.size ≤ fb by omega) _)
  have HRM : Hid (type_of% hRM) := hRM
  have hws : (w1.setCell ⟨w.heap.size + 1 + 1, 0, none⟩ (.slice (some ⟨fb, 0, none⟩) n fc)).cell? ⟨fb, u, none⟩ = some (.bool (liv bs u)) ∧ (w1.setCell ⟨w.heap.size + 1 + 1, 0, none⟩ (.slice (some ⟨fb, 0, none⟩) n fc)).frozen? ⟨fb, u, none⟩ = false ∧ fb < (w1.setCell ⟨w.heap.size + 1 + 1, 0, none⟩ (.slice (some ⟨fb, 0, none⟩) n fc)).heap.size := by
    obtain ⟨y0, y1, y2⟩ := Y1.out
    have hsz := HSZ.out
    have hfl := (y1.lt fb rfl).2
    have h2 := (hso (w := w1) (b := w.heap.size + 1 + 1) (o := 0) (j := fb) (.slice (some ⟨fb, 0, none⟩) n fc) (by omega))
    have hw := row_at (w' := w1.setCell ⟨w.heap.size + 1 + 1, 0, none⟩ (.slice (some ⟨fb, 0, none⟩) n fc)) y1 h2
    obtain ⟨g', e, _, h3⟩ := (fl_of_row HL.out hw).at (m := u) (by have := HL.out; omega)
    obtain rfl := addr_inj e
    exact ⟨h3, hw.frozenAt u, by simpa using hfl⟩
  have hpw : (w1.setCell ⟨w.heap.size + 1 + 1, 0, none⟩ (.slice (some ⟨fb, 0, none⟩) n fc)).cell? ⟨w.heap.size + 1 + 1, 0, none⟩ = some (.slice (some ⟨fb, 0, none⟩) n fc) ∧ w.heap.size + 1 + 1 < (w1.setCell ⟨w.heap.size + 1 + 1, 0, none⟩ (.slice (some ⟨fb, 0, none⟩) n fc)).heap.size := by
    obtain ⟨y0, y1, y2⟩ := Y1.out
    have h := hsc_same (o := 0) (.slice (some ⟨fb, 0, none⟩) n fc) ((y2.block _ (lt_of_get HS.out.2.2.1)).trans HS.out.2.2.1)
    exact ⟨by simp [World.cell?, h], lt_of_get h⟩
  generalize (w1.setCell ⟨w.heap.size + 1 + 1, 0, none⟩ (.slice (some ⟨fb, 0, none⟩) n fc)) = W4 at *
  generalize w1.heap.size = B at *
  clear d0 d1 d2 d3 ds hRM Y1 HS HSZ o1 o2
  obtain ⟨k0, k1, k2⟩ := hws
  obtain ⟨k3, k4⟩ := hpw
  generalize w.heap.size + 1 + 1 = p2 at *
  generalize w.heap.size + 1 = p1 at *
  generalize liv bs u = lb0 at *
  obtain ⟨fs, hfs⟩ : ∃ fs, (bs.set u false).map Value.bool = fs := ⟨_, rfl⟩
  rw [hfs] at HRM
  have HFS : Hid ((bs.set u false).map Value.bool = fs) := hfs
  clear hfs
  go_upto_region 4 with fail
  generalize (W4.setCell ⟨fb, u, none⟩ (.bool false)) = W5 at *
  clear k0 k1 k2 k3 k4
  obtain ⟨c0, c1, _, _⟩ := cell_two HRM.out.o
  have cs := lt_of_get HRM.out.o
  go_wp2_with fail
  clear c0 c1 cs
  go_loopw [21] (fun iv wr => ∃ (k : Nat) (so : Option Addr) (sc : Nat), k ≤ zs.length ∧ iv = .int .i64 (k : Nat) ∧ RM (.slice (some ⟨g, 0, none⟩) n c) (.slice ao zs.length cap) n fs w wr w.heap.size p1 p2 fb fc B (.slice so (remZ (zs.take k) (u : Int)).length sc) (remZ (zs.take k) (u : Int))) (fun iv _ => zs.length - (intOf iv).toNat)
  case atStart => exact ⟨0, none, 0, Nat.zero_le _, rfl, HRM.out⟩
  case round =>
    obtain ⟨k, so, sc, hk, rfl, hM⟩ := hrel
    by_cases hlt : k < zs.length
    · obtain ⟨z, hzk⟩ : ∃ z, zs[k]? = some z := ⟨zs[k], List.getElem?_eq_getElem hlt⟩
      obtain ⟨lb, lof, rfl, ll, q0, q1, q2, q3⟩ := (HA.out wr hM.bel).at hzk
      obtain ⟨hs1, hs2⟩ := remZ_succ hzk (u : Int)
      have hle : (remZ (zs.take k) (u : Int)).length ≤ 262144 := Nat.le_trans (remZ_len _ _) (by rw [List.length_take]; omega)
      obtain ⟨z0, z1, z2, z3⟩ := z
      simp only at q0 q1 q2 q3 hs1 hs2
      obtain ⟨L, hL⟩ : ∃ L, remZ (zs.take k) (u : Int) = L := ⟨_, rfl⟩
      rw [hL] at hM hs1 hs2 hle
      obtain ⟨Wa, hWa⟩ : ∃ Wa, wr.alloc (.cells #[.int .i64 z0, .int .i64 z1, .int .u64 z2, .int .i64 z3] 91) = Wa := ⟨_, rfl⟩
      have HWA : Hid (wr.alloc (.cells #[.int .i64 z0, .int .i64 z1, .int .u64 z2, .int .i64 z3] 91) = Wa) := hWa
      have hnew : Wa.heap[wr.heap.size]? = some (.cells #[.int .i64 z0, .int .i64 z1, .int .u64 z2, .int .i64 z3] 91) := by rw [← hWa]; exact heap_new _ _
      have hMa := hM.keep (w' := Wa) (by rw [← hWa]; exact bel_one _ _)
      have HMA : Hid (type_of% hMa) := hMa
      have hMb := hMa.keep (bel_one Wa (.cells #[.int .i64 z0, .int .i64 z1, .int .u64 z2, .int .i64 z3] 91))
      have HMB : Hid (type_of% hMb) := hMb
      have HON : Hid (type_of% (a4_one Wa (z0, z1, z2, z3) 91)) := a4_one Wa (z0, z1, z2, z3) 91
      have n0 : Wa.cell? ⟨wr.heap.size, 0, none⟩ = some (.int .i64 z0) := by simp [World.cell?, hnew]
      have n1 : Wa.cell? ⟨wr.heap.size, 1, none⟩ = some (.int .i64 z1) := by simp [World.cell?, hnew]
      have n2 : Wa.cell? ⟨wr.heap.size, 2, none⟩ = some (.int .u64 z2) := by simp [World.cell?, hnew]
      have n3 : Wa.cell? ⟨wr.heap.size, 3, none⟩ = some (.int .i64 z3) := by simp [World.cell?, hnew]
      have ns : wr.heap.size < Wa.heap.size := lt_of_get hnew
      obtain ⟨d0, d1, _, _⟩ := cell_two hMa.p
      have ds := lt_of_get hMa.p
      have t1 : (k : Int) < (zs.length : Int) := by omega
      have t2 : (0 : Int) ≤ (k : Int) := by omega
      clear hzk hL hWa hnew hM hMa hMb
      by_cases e0 : z0 = (u : Int)
      · have HS1 : Hid (remZ (zs.take (k + 1)) (u : Int) = L) := hs1 (Or.inl e0)
        have b0 : (z0 != (u : Int)) = false := by simp [e0]
        clear hs1 hs2
        subst e0
        go_upto_region 7 with fail
        rw [HWA.out]
        go_wp2
        go_roundw
        case rel => exact ⟨k + 1, so, sc, by omega, by go_num, by rw [HS1.out]; exact HMA.out⟩
        case measure => simp [intOf]; omega
      · have b0 : (z0 != (u : Int)) = true := bne_iff_ne.2 e0
        by_cases e1 : z1 = (u : Int)
        · have HS1 : Hid (remZ (zs.take (k + 1)) (u : Int) = L) := hs1 (Or.inr e1)
          have b1 : (z1 != (u : Int)) = false := by simp [e1]
          clear hs1 hs2
          subst e1
          go_upto_region 7 with fail
          rw [HWA.out]
          go_wp2
          go_roundw
          case rel => exact ⟨k + 1, so, sc, by omega, by go_num, by rw [HS1.out]; exact HMA.out⟩
          case measure => simp [intOf]; omega
        · have HS2 : Hid (remZ (zs.take (k + 1)) (u : Int) = L ++ [(z0, z1, z2, z3)]) := hs2 (fun e => e.elim e0 e1)
          have b1 : (z1 != (u : Int)) = true := bne_iff_ne.2 e1
          clear hs1 hs2
          go_upto_region 7 with fail
          rw [HWA.out]
          go_wp2_with (at_builtin; refine wpList_append_a4 rfl _ _ rfl B (.slice so L.length sc) L rfl HMB.out.own ⟨Wa.heap.size, 0, none⟩ 1 [(z0, z1, z2, z3)] rfl HON.out (by simp only [List.length_cons, List.length_nil]; omega) HMB.out.ord.2.2.2.2 ?_; intro v' w' hown hgr; obtain ⟨ro, rc, hv⟩ := row4_slice hown; subst hv; obtain ⟨x1, x2, x3⟩ := HMB.out.grown hgr; have Y : Hid (type_of% (HMB.out.put hown hgr)) := HMB.out.put hown hgr; clear hown hgr; generalize L ++ [(z0, z1, z2, z3)] = L2 at *)
          go_roundw
          case rel => exact ⟨k + 1, ro, rc, by omega, by go_num, by rw [HS2.out]; exact Y.out⟩
          case measure => simp [intOf]; omega
    · obtain rfl : k = zs.length := by omega
      rw [List.take_length] at hM
      obtain ⟨L, hL⟩ : ∃ L, remZ zs (u : Int) = L := ⟨_, rfl⟩
      rw [hL] at hM
      have HLL : Hid (remZ zs (u : Int) = L) := hL
      have HM : Hid (type_of% hM) := hM
      clear hL
      clear hM
      obtain ⟨e0, e1, _, _⟩ := cell_two HM.out.p
      have es := lt_of_get HM.out.p
      obtain ⟨r0, r1, f0, f1⟩ := cell_two HM.out.r
      have rs := lt_of_get HM.out.r
      have o1 : p1 ≠ p2 := by have := HM.out.ord; omega
      have o2 : p2 ≠ p1 := by have := HM.out.ord; omega
      go_wp2
      have y1 := two_set (v0 := .slice (some ⟨fb, 0, none⟩) n fc) (v1 := .slice so L.length sc) HM.out.r
      have y2 : Below w.heap.size w ((wr.setCell ⟨p1, 0, none⟩ (.slice (some ⟨fb, 0, none⟩) n fc)).setCell ⟨p1, 1, none⟩ (.slice so L.length sc)) := HM.out.bel.trans (two_below (by have := HM.out.ord; omega))
      have y3 : ((wr.setCell ⟨p1, 0, none⟩ (.slice (some ⟨fb, 0, none⟩) n fc)).setCell ⟨p1, 1, none⟩ (.slice so L.length sc)).ownsRow w.heap.size 91 4 (.slice so L.length sc) L.length (flatA4 L) := by
        have o := HM.out.ord
        exact row4_base (row4_keep HM.out.own (fun g h1 _ => (hso _ (by omega)).trans (hso _ (by omega)))) (by omega)
      have y4 : ((wr.setCell ⟨p1, 0, none⟩ (.slice (some ⟨fb, 0, none⟩) n fc)).setCell ⟨p1, 1, none⟩ (.slice so L.length sc)).ownsRow w.heap.size 4 1 (.slice (some ⟨fb, 0, none⟩) n fc) n fs := by
        have o := HM.out.ord
        exact row_at HM.out.fl ((hso _ (by omega)).trans (hso _ (by omega)))
      generalize ((wr.setCell ⟨p1, 0, none⟩ (.slice (some ⟨fb, 0, none⟩) n fc)).setCell ⟨p1, 1, none⟩ (.slice so L.length sc)) = Wf at *
      obtain ⟨u0, u1, _, _⟩ := cell_two y1
      refine bodyPost_ret (v := .agg #[.slice (some ⟨fb, 0, none⟩) n fc, .slice so L.length sc]) (by simp [results, Tryz.results32, go_sem, u0, u1]) rfl ⟨y2, fb, fc, so, sc, by rw [HLL.out], by rw [HFS.out]; exact y4, by rw [HLL.out]; exact y3⟩
end Go.Proofs.YtnclegldhafaeaaGreatDoor

namespace Go.Proofs.YtnclegldhafaeaaGreatDoor
open Go.RowKit Go.Extern Go.Sort

/-- blocks lie as they are told. -/
def Lies (PX : Nat → Option Obj) (w : World) : Prop := ∀ X o, PX X = some o → w.heap[X]? = some o
def Wider (PX PY : Nat → Option Obj) : Prop := ∀ X o, PX X = some o → PY X = some o
theorem Wider.trans {PX PY PZ : Nat → Option Obj} (h : Wider PX PY) (k : Wider PY PZ) : Wider PX PZ := fun X o hX => k X o (h X o hX)
section
variable {PX : Nat → Option Obj} {w w' : World} {B0 pb n : Nat} {bs : List Bool} {R : Bool → Nat → Rw} {nodes arcs : Int}
theorem IsOv.lies (h : IsOv PX B0 w pb n bs R nodes arcs) : Lies PX w := fun X o hX => by
  obtain ⟨B, ab, sb, h0, hk, h2⟩ := h
  exact (hk.prot X o hX).1
/-- all that was laid since is guarded. -/
def wrapP (PX : Nat → Option Obj) (K : Nat) (w' : World) : Nat → Option Obj := fun X => if K ≤ X then w'.heap[X]? else PX X
theorem IsOv.wrap (h : IsOv PX B0 w pb n bs R nodes arcs) (hb : Below w.heap.size w w') : IsOv (wrapP PX w.heap.size w') B0 w' pb n bs R nodes arcs ∧ Wider PX (wrapP PX w.heap.size w') := by
  have hl := h.lies
  obtain ⟨B, ab, sb, h0, h1, h2⟩ := h
  have hk := h1.keep hb
  refine ⟨⟨B, ab, sb, h0, ⟨hk.box, hk.al, hk.row, hk.bl, hk.big, hk.own, hk.low, hk.two, fun X o hX => ?_, hk.apart⟩, h2⟩, fun X o hX => ?_⟩
  · unfold wrapP at hX
    split at hX
    · rename_i hKX
      refine ⟨hX, fun e => ?_, fun e => ?_, fun s e => ?_, fun s u hu e => ?_⟩
      · have := lt_of_get h1.box; omega
      · have := lt_of_get h1.al; omega
      · have := lt_of_get (h1.row s); omega
      · have := ((h1.own s u hu).lt _ e).2; omega
    · obtain ⟨p1, p2⟩ := h1.prot X o hX
      exact ⟨(hb.block _ (lt_of_get p1)).trans p1, p2⟩
  · have := lt_of_get (hl X o hX)
    unfold wrapP
    rw [if_neg (by omega)]
    exact hX
/-- a guarded block is written. -/
def updP (PX : Nat → Option Obj) (X : Nat) (o : Obj) : Nat → Option Obj := fun Y => if Y = X then some o else PX Y
theorem IsOv.write (h : IsOv PX B0 w pb n bs R nodes arcs) {X : Nat} {o o' : Obj} (hX : PX X = some o) (h0 : w'.heap[X]? = some o') (h1 : ∀ j, j ≠ X → w'.heap[j]? = w.heap[j]?) : IsOv (updP PX X o') B0 w' pb n bs R nodes arcs := by
  obtain ⟨B, ab, sb, hB, hk, h2⟩ := h
  obtain ⟨_, n1, n2, n3, n4⟩ := hk.prot X o hX
  refine ⟨B, ab, sb, hB, ⟨(h1 _ (Ne.symm n1)).trans hk.box, (h1 _ (Ne.symm n2)).trans hk.al, fun s => (h1 _ (Ne.symm (n3 s))).trans (hk.row s), hk.bl, hk.big, fun s u hu => rowX_keep (hk.own s u hu) (fun g e => h1 g (fun e2 => n4 s u hu (by rw [e, e2]))), hk.low, hk.two, fun Y oy hY => ?_, hk.apart⟩, h2⟩
  unfold updP at hY
  split at hY
  · rename_i e
    subst e
    injection hY with hY
    subst hY
    exact ⟨h0, n1, n2, n3, n4⟩
  · rename_i e
    obtain ⟨p1, p2⟩ := hk.prot Y oy hY
    exact ⟨(h1 Y e).trans p1, p2⟩
end
/-- a value's block is guarded. -/
def Held (PX : Nat → Option Obj) (v : Value) : Prop := ∀ g, v.ownBlock = some g → ∃ o, PX g = some o
/-- the program's overlay and the reference's tell the same. -/
structure Both (PX : Nat → Option Obj) (B0 : Nat) (w : World) (pb n : Nat) (bs : List Bool) (R : Bool → Nat → Rw) (zs : List A4) (av lv : Value) : Prop where
  ov : IsOv PX B0 w pb n bs R ((aliveN n bs : Nat) : Int) ((zs.length : Nat) : Int)
  tie : Tied n bs R zs
  fl : w.ownsRow 0 4 1 av n (bs.map Value.bool)
  ar : w.ownsRow 0 91 4 lv zs.length (flatA4 zs)
  hf : Held PX av
  ha : Held PX lv
section
variable {PX : Nat → Option Obj} {w w' : World} {B0 pb n : Nat} {bs : List Bool} {R : Bool → Nat → Rw} {zs : List A4} {av lv : Value}
theorem held_row {e size m : Nat} {v : Value} {xs : List Value} (h : w.ownsRow 0 e size v m xs) (hh : Held PX v) (h1 : Lies PX w) (h2 : Lies PX w') : w'.ownsRow 0 e size v m xs := rowX_keep h (fun g e => by
  obtain ⟨o, ho⟩ := hh g e
  rw [h1 g o ho, h2 g o ho])
theorem below_row {e size m : Nat} {v : Value} {xs : List Value} (h : w.ownsRow 0 e size v m xs) (hb : Below w.heap.size w w') : w'.ownsRow 0 e size v m xs := rowX_keep h (fun g e => hb.block g (h.lt g e).2)
theorem Held.wider {PY : Nat → Option Obj} {v : Value} (h : Held PX v) (hw : Wider PX PY) : Held PY v := fun g e => by
  obtain ⟨o, ho⟩ := h g e
  exact ⟨o, hw g o ho⟩
theorem Both.keep (h : Both PX B0 w pb n bs R zs av lv) (hb : Below w.heap.size w w') : Both PX B0 w' pb n bs R zs av lv := ⟨h.ov.keep hb, h.tie, below_row h.fl hb, below_row h.ar hb, h.hf, h.ha⟩
theorem Both.wrap (h : Both PX B0 w pb n bs R zs av lv) (hb : Below w.heap.size w w') : Both (wrapP PX w.heap.size w') B0 w' pb n bs R zs av lv :=
  ⟨(h.ov.wrap hb).1, h.tie, below_row h.fl hb, below_row h.ar hb, h.hf.wider (h.ov.wrap hb).2, h.ha.wider (h.ov.wrap hb).2⟩
/-- behind a call of the program's. -/
theorem Both.after (h : Both PX B0 w pb n bs R zs av lv) {bs' : List Bool} {R' : Bool → Nat → Rw} {nodes arcs : Int} (hv : IsOv PX B0 w' pb n bs' R' nodes arcs) : w'.ownsRow 0 4 1 av n (bs.map Value.bool) ∧ w'.ownsRow 0 91 4 lv zs.length (flatA4 zs) :=
  ⟨held_row h.fl h.hf h.ov.lies hv.lies, held_row h.ar h.ha h.ov.lies hv.lies⟩
theorem Both.hasFl (h : Both PX B0 w pb n bs R zs av lv) : HasFl w av bs := fl_of_row h.ov.bl.1 h.fl
theorem Both.hasA4 (h : Both PX B0 w pb n bs R zs av lv) : HasA4 w lv zs := a4_of_row h.ar
theorem row1_slice {w : World} {base m : Nat} {xs : List Value} {v : Value} (h : w.ownsRow base 4 1 v m xs) : ∃ ao cap, v = .slice ao m cap := by
  rcases h.2 with ⟨h, h'⟩ | ⟨g, cap, cur, h, _⟩
  · exact ⟨none, 0, by rw [h']; exact h⟩
  · exact ⟨_, cap, h⟩
theorem wrap_held {K e size m : Nat} {v : Value} {xs : List Value} (hK : w.heap.size ≤ K) (h : w'.ownsRow K e size v m xs) : Held (wrapP PX w.heap.size w') v := fun g e => by
  obtain ⟨h1, h2⟩ := h.lt g e
  refine ⟨w'.heap[g], ?_⟩
  unfold wrapP
  rw [if_pos (by omega)]
  exact Array.getElem?_eq_getElem h2
/-- writing into a guarded block that is none of the rows. -/
theorem Both.write (h : Both PX B0 w pb n bs R zs av lv) {X : Nat} {o o' : Obj} (hX : PX X = some o) (h0 : w'.heap[X]? = some o') (h1 : ∀ j, j ≠ X → w'.heap[j]? = w.heap[j]?) (hf : av.ownBlock ≠ some X) (ha : lv.ownBlock ≠ some X) : Both (updP PX X o') B0 w' pb n bs R zs av lv := by
  have hu : ∀ {v : Value}, v.ownBlock ≠ some X → Held PX v → Held (updP PX X o') v := fun {v} hv hh g e => by
    obtain ⟨og, ho⟩ := hh g e
    exact ⟨og, by unfold updP; rw [if_neg (fun e2 => hv (by rw [← e2]; exact e))]; exact ho⟩
  exact ⟨h.ov.write hX h0 h1, h.tie, rowX_keep h.fl (fun g e => h1 g (fun e2 => hf (by rw [← e2]; exact e))), rowX_keep h.ar (fun g e => h1 g (fun e2 => ha (by rw [← e2]; exact e))), hu hf h.hf, hu ha h.ha⟩
/-- new rows, or the elder one. -/
def NewOr (K : Nat) (v v' : Value) : Prop := v' = v ∨ ∀ g, v'.ownBlock = some g → K ≤ g
end
end Go.Proofs.YtnclegldhafaeaaGreatDoor

namespace Go.Proofs.YtnclegldhafaeaaGreatDoor
open Go.RowKit Go.Extern Go.Sort

attribute [local go_sem] Oper.semAt_some

section
variable {PX : Nat → Option Obj} {w w' : World} {B0 pb n : Nat} {bs : List Bool} {R : Bool → Nat → Rw} {zs : List A4} {av lv : Value}
theorem IsOv.outM {nodes arcs : Int} (h : IsOv PX B0 w pb n bs R nodes arcs) (x : Int) : Calls Tryz.prog 12 #[.pointer (some ⟨pb, 0, none⟩), .int .i64 x] w fun e w' => ∃ so sc, e = .returned (.slice so (Go.Proofs.YtnclegldhafaeaaGreatDoor.outM n bs R false x).length sc) ∧ HasHs w' (.slice so (Go.Proofs.YtnclegldhafaeaaGreatDoor.outM n bs R false x).length sc) (Go.Proofs.YtnclegldhafaeaaGreatDoor.outM n bs R false x) ∧ Below w.heap.size w w' := by
  refine (h.out x).mono ?_
  rintro e w' ⟨v', rfl, h1, h2, h3⟩
  unfold Go.Proofs.YtnclegldhafaeaaGreatDoor.outM
  cases hx : aliveB n bs x with
  | false =>
    rw [h1 hx]
    exact ⟨none, 0, rfl, ⟨none, 0, rfl, fun j a hj => by simp at hj⟩, h3⟩
  | true =>
    have h4 := h2 hx
    obtain ⟨so, sc, rfl⟩ := rowH_slice h4
    exact ⟨so, sc, rfl, hs_of_rowH h4, h3⟩
theorem IsOv.inM {nodes arcs : Int} (h : IsOv PX B0 w pb n bs R nodes arcs) (x : Int) : Calls Tryz.prog 14 #[.pointer (some ⟨pb, 0, none⟩), .int .i64 x] w fun e w' => ∃ so sc, e = .returned (.slice so (Go.Proofs.YtnclegldhafaeaaGreatDoor.outM n bs R true x).length sc) ∧ HasHs w' (.slice so (Go.Proofs.YtnclegldhafaeaaGreatDoor.outM n bs R true x).length sc) (Go.Proofs.YtnclegldhafaeaaGreatDoor.outM n bs R true x) ∧ Below w.heap.size w w' := by
  refine (h.inn x).mono ?_
  rintro e w' ⟨v', rfl, h1, h2, h3⟩
  unfold Go.Proofs.YtnclegldhafaeaaGreatDoor.outM
  cases hx : aliveB n bs x with
  | false =>
    rw [h1 hx]
    exact ⟨none, 0, rfl, ⟨none, 0, rfl, fun j a hj => by simp at hj⟩, h3⟩
  | true =>
    have h4 := h2 hx
    obtain ⟨so, sc, rfl⟩ := rowH_slice h4
    exact ⟨so, sc, rfl, hs_of_rowH h4, h3⟩
theorem IsOv.outLe {nodes arcs : Int} (h : IsOv PX B0 w pb n bs R nodes arcs) (s : Bool) (x : Int) : (Go.Proofs.YtnclegldhafaeaaGreatDoor.outM n bs R s x).length ≤ 65536 := by
  unfold Go.Proofs.YtnclegldhafaeaaGreatDoor.outM
  cases hx : aliveB n bs x with
  | false => simp
  | true =>
    obtain ⟨u, rfl, hu, _⟩ := aliveB_iff.1 hx
    simpa using h.rowLe s hu
theorem Both.rout {fo ao : Option Addr} {fc ac : Nat} (h : Both PX B0 w pb n bs R zs (.slice fo n fc) (.slice ao zs.length ac)) (hz : zs.length ≤ 262144) (x : Int) : Calls Tryz.prog 13 #[.agg #[.slice fo n fc, .slice ao zs.length ac], .int .i64 x] w fun e w' => ∃ so sc, e = .returned (.slice so (outM n bs R false x).length sc) ∧ HasHs w' (.slice so (outM n bs R false x).length sc) (outM n bs R false x) ∧ Below w.heap.size w w' := by
  have h1 := rOut11_calls (.slice fo n fc) ao ac zs x w h.hasA4 hz (sideA_pw h.tie.one _ _) _ _ _ rfl
  rw [h.tie.outM h.ov.inv] at h1
  exact h1
theorem Both.rin {fo ao : Option Addr} {fc ac : Nat} (h : Both PX B0 w pb n bs R zs (.slice fo n fc) (.slice ao zs.length ac)) (hz : zs.length ≤ 262144) (x : Int) : Calls Tryz.prog 15 #[.agg #[.slice fo n fc, .slice ao zs.length ac], .int .i64 x] w fun e w' => ∃ so sc, e = .returned (.slice so (outM n bs R true x).length sc) ∧ HasHs w' (.slice so (outM n bs R true x).length sc) (outM n bs R true x) ∧ Below w.heap.size w w' := by
  have h1 := rIn11_calls (.slice fo n fc) ao ac zs x w h.hasA4 hz (sideA_pw h.tie.one _ _) _ _ _ rfl
  rw [h.tie.outM h.ov.inv] at h1
  exact h1
/-- what a step leaves. -/
def StepPost (PX : Nat → Option Obj) (B0 : Nat) (w : World) (pb n : Nat) (zs : List A4) (av lv : Value) (e : Ending) (w' : World) : Prop := ∃ PX' bs' R' zs' av' lv', e = .returned (.tuple #[.agg #[av', lv'], .bool true]) ∧ Both PX' B0 w' pb n bs' R' zs' av' lv' ∧ Wider PX PX' ∧ zs'.length ≤ zs.length + 1 ∧ Below B0 w w' ∧ NewOr w.heap.size av av' ∧ NewOr w.heap.size lv lv'
/-- the boxes of a step. -/
abbrev opC (a : Op5) : Array Value := #[.int .u8 a.1, .int .i64 a.2.1, .int .i64 a.2.2.1, .int .u64 a.2.2.2.1, .int .i64 a.2.2.2.2]
structure Boxes (wx : World) (p : Nat) (av lv : Value) (a : Op5) : Prop where
  o : wx.heap[p]? = some (.cells #[av, lv] 40 (0, 0))
  x : wx.heap[p + 1]? = some (.cells (opC a) 45 (0, 0))
  r : wx.heap[p + 1 + 1]? = some (.cells #[.slice none 0 0, .slice none 0 0] 40 (0, 0))
theorem Boxes.cx {wx : World} {p : Nat} {av lv : Value} {a : Op5} (h : Boxes wx p av lv a) : wx.cell? ⟨p + 1, 0, none⟩ = some (.int .u8 a.1) ∧ wx.cell? ⟨p + 1, 1, none⟩ = some (.int .i64 a.2.1) ∧ wx.cell? ⟨p + 1, 2, none⟩ = some (.int .i64 a.2.2.1) ∧ wx.cell? ⟨p + 1, 3, none⟩ = some (.int .u64 a.2.2.2.1) ∧ wx.cell? ⟨p + 1, 4, none⟩ = some (.int .i64 a.2.2.2.2) ∧ p + 1 < wx.heap.size := by
  refine ⟨?_, ?_, ?_, ?_, ?_, lt_of_get h.x⟩ <;> simp [World.cell?, h.x]
theorem Boxes.co {wx : World} {p : Nat} {av lv : Value} {a : Op5} (h : Boxes wx p av lv a) : wx.cell? ⟨p, 0, none⟩ = some av ∧ wx.cell? ⟨p, 1, none⟩ = some lv ∧ p < wx.heap.size := ⟨(cell_two h.o).1, (cell_two h.o).2.1, lt_of_get h.o⟩
theorem Boxes.cr {wx : World} {p : Nat} {av lv : Value} {a : Op5} (h : Boxes wx p av lv a) : wx.cell? ⟨p + 1 + 1, 0, none⟩ = some (.slice none 0 0) ∧ wx.cell? ⟨p + 1 + 1, 1, none⟩ = some (.slice none 0 0) ∧ wx.frozen? ⟨p + 1 + 1, 0, none⟩ = false ∧ wx.frozen? ⟨p + 1 + 1, 1, none⟩ = false ∧ p + 1 + 1 < wx.heap.size := ⟨(cell_two h.r).1, (cell_two h.r).2.1, (cell_two h.r).2.2.1, (cell_two h.r).2.2.2, lt_of_get h.r⟩
theorem step_in (h : Both PX B0 w pb n bs R zs av lv) (a : Op5) {W3 : World} (hW3 : ((w.alloc (.cells #[av, lv] 40)).alloc (.cells (opC a) 45)).alloc (.cells #[.slice none 0 0, .slice none 0 0] 40) = W3) :
    Both (wrapP PX w.heap.size W3) B0 W3 pb n bs R zs av lv ∧ Below w.heap.size w W3 ∧ Wider PX (wrapP PX w.heap.size W3) ∧ (∀ wx, Lies (wrapP PX w.heap.size W3) wx → Boxes wx w.heap.size av lv a) ∧ (wrapP PX w.heap.size W3) (w.heap.size + 1 + 1) = some (.cells #[.slice none 0 0, .slice none 0 0] 40 (0, 0)) := by
  obtain ⟨s0, s1, s2, sB⟩ := three_new w (.cells #[av, lv] 40) (.cells (opC a) 45) (.cells #[.slice none 0 0, .slice none 0 0] 40)
  rw [hW3] at s0 s1 s2 sB
  have e0 : ∀ X, w.heap.size ≤ X → (wrapP PX w.heap.size W3) X = W3.heap[X]? := fun X hX => by unfold wrapP; rw [if_pos hX]
  refine ⟨h.wrap sB, sB, (h.ov.wrap sB).2, fun wx hl => ⟨hl _ _ ((e0 _ (Nat.le_refl _)).trans s0), hl _ _ ((e0 _ (by omega)).trans s1), hl _ _ ((e0 _ (by omega)).trans s2)⟩, (e0 _ (by omega)).trans s2⟩
theorem own_ne {e size m K : Nat} {v : Value} {xs : List Value} (h : w.ownsRow 0 e size v m xs) (hK : w.heap.size ≤ K) : v.ownBlock ≠ some K := fun e => by
  have := (h.lt K e).2
  omega
theorem wider_upd {PY : Nat → Option Obj} {K : Nat} {o : Obj} (h : Wider PX PY) (hn : ∀ o, PX K ≠ some o) : Wider PX (updP PY K o) := fun X ox hX => by
  unfold updP
  split
  · rename_i e
    subst e
    exact absurd hX (hn ox)
  · exact h X ox hX
/-- a step that leaves all as it was. -/
theorem step_same (h : Both PX B0 w pb n bs R zs av lv) (a : Op5) {W3 wy : World} (hW3 : ((w.alloc (.cells #[av, lv] 40)).alloc (.cells (opC a) 45)).alloc (.cells #[.slice none 0 0, .slice none 0 0] 40) = W3) (hb : Below W3.heap.size W3 wy) :
    ((wy.setCell ⟨w.heap.size + 1 + 1, 0, none⟩ av).setCell ⟨w.heap.size + 1 + 1, 1, none⟩ lv).heap[w.heap.size + 1 + 1]? = some (.cells #[av, lv] 40 (0, 0)) ∧ StepPost PX B0 w pb n zs av lv (.returned (.tuple #[.agg #[av, lv], .bool true])) ((wy.setCell ⟨w.heap.size + 1 + 1, 0, none⟩ av).setCell ⟨w.heap.size + 1 + 1, 1, none⟩ lv) := by
  obtain ⟨h3, b3, hwd, hbx, hp⟩ := step_in h a hW3
  have hy := h3.keep hb
  have hr := (hbx wy hy.ov.lies).r
  have hs := two_set (v0 := av) (v1 := lv) hr
  have hl := h.ov.lies
  refine ⟨hs, _, bs, R, zs, av, lv, rfl, hy.write hp hs (fun j hj => (hso _ hj).trans (hso _ hj)) (own_ne h.fl (by omega)) (own_ne h.ar (by omega)), wider_upd hwd (fun o ho => by have := lt_of_get (hl _ _ ho); omega), by omega, ?_, Or.inl rfl, Or.inl rfl⟩
  have hB := h.ov.size
  exact ((b3.trans (hb.mono b3.size)).trans (two_below (by omega))).mono hB
/-- a step behind which there is another overlay. -/
theorem step_new (h : Both PX B0 w pb n bs R zs av lv) (a : Op5) {W3 w2 wy : World} (hW3 : ((w.alloc (.cells #[av, lv] 40)).alloc (.cells (opC a) 45)).alloc (.cells #[.slice none 0 0, .slice none 0 0] 40) = W3)
    {bs' : List Bool} {R' : Bool → Nat → Rw} {zs' : List A4} {av' lv' : Value} (hov : IsOv (wrapP PX w.heap.size W3) B0 w2 pb n bs' R' ((aliveN n bs' : Nat) : Int) ((zs'.length : Nat) : Int)) (htie : Tied n bs' R' zs') (hb2 : Below B0 W3 w2) (hb : Below w2.heap.size w2 wy)
    (hav : (av' = av ∧ bs' = bs) ∨ wy.ownsRow w2.heap.size 4 1 av' n (bs'.map Value.bool)) (hlv : wy.ownsRow w2.heap.size 91 4 lv' zs'.length (flatA4 zs')) (hlen : zs'.length ≤ zs.length + 1) :
    ((wy.setCell ⟨w.heap.size + 1 + 1, 0, none⟩ av').setCell ⟨w.heap.size + 1 + 1, 1, none⟩ lv').heap[w.heap.size + 1 + 1]? = some (.cells #[av', lv'] 40 (0, 0)) ∧ StepPost PX B0 w pb n zs av lv (.returned (.tuple #[.agg #[av', lv'], .bool true])) ((wy.setCell ⟨w.heap.size + 1 + 1, 0, none⟩ av').setCell ⟨w.heap.size + 1 + 1, 1, none⟩ lv') := by
  obtain ⟨h3, b3, hwd, hbx, hp⟩ := step_in h a hW3
  obtain ⟨hw1, hw2⟩ := hov.wrap hb
  have hr := (hbx wy (hov.keep hb).lies).r
  have hs := two_set (v0 := av') (v1 := lv') hr
  have hl := h.ov.lies
  have hsz : w.heap.size + 1 + 1 < W3.heap.size := by rw [← hW3]; simp
  have hsz2 := hb2.size
  have hB := h.ov.size
  have hfl : wy.ownsRow 0 4 1 av' n (bs'.map Value.bool) := by
    rcases hav with ⟨rfl, rfl⟩ | ha
    · exact below_row (held_row h3.fl h3.hf h3.ov.lies hov.lies) hb
    · exact rowX_base ha (Nat.zero_le _)
  have hhf : Held (wrapP (wrapP PX w.heap.size W3) w2.heap.size wy) av' := by
    rcases hav with ⟨rfl, rfl⟩ | ha
    · exact h3.hf.wider hw2
    · exact wrap_held (Nat.le_refl _) ha
  have hnf : av'.ownBlock ≠ some (w.heap.size + 1 + 1) := by
    rcases hav with ⟨rfl, rfl⟩ | ha
    · exact own_ne h.fl (by omega)
    · intro e; have := (ha.lt _ e).1; omega
  have hna : lv'.ownBlock ≠ some (w.heap.size + 1 + 1) := fun e => by have := (hlv.lt _ e).1; omega
  have hB2 : Both (wrapP (wrapP PX w.heap.size W3) w2.heap.size wy) B0 wy pb n bs' R' zs' av' lv' := ⟨hw1, htie, hfl, rowX_base hlv (Nat.zero_le _), hhf, wrap_held (Nat.le_refl _) hlv⟩
  refine ⟨hs, _, bs', R', zs', av', lv', rfl, hB2.write (hw2 _ _ hp) hs (fun j hj => (hso _ hj).trans (hso _ hj)) hnf hna, wider_upd (hwd.trans hw2) (fun o ho => by have := lt_of_get (hl _ _ ho); omega), hlen, ?_, ?_, Or.inr (fun g e => by have := (hlv.lt _ e).1; omega)⟩
  · have hBw := hov.size
    exact ((b3.mono hB).trans hb2).trans ((hb.mono hBw).trans (two_below (by omega)))
  · rcases hav with ⟨rfl, rfl⟩ | ha
    · exact Or.inl rfl
    · exact Or.inr (fun g e => by have := (ha.lt _ e).1; omega)
end
end Go.Proofs.YtnclegldhafaeaaGreatDoor
