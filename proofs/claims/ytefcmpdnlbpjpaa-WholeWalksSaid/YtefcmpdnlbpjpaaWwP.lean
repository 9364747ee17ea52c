/- Paths that are found, as walks; their lengths; what is joined of two. -/
import Derived.Test.YtefcmpdnlbpjpaaWsX
import Derived.Test.YtefcmpdnlbpjpaaSpA
import Derived.Test.YtefcmpdnlbpjpaaScM
import Derived.Test.YtefcmpdnlbpjpaaSmM
import Derived.Test.YtefcmpdnlbpjpaaWkK
namespace Go.Proofs.Ytefcmpdnlbpjpaa
open Go.RowKit Go.Extern

theorem length_fine (n : Nat) (zs : List (Int × Int × Int)) (fo uo wo : Option Addr) (fc tc wc : Nat) (w : World) (hz : Fine n zs) (hI : ∀ wx, Below w.heap.size w wx → CsrIn wx n zs fo uo wo fc tc wc) (htc : zs.length ≤ tc) (no : Option Addr) (nc : Nat) (xs : List Int) (hx : HasInts w (.slice no xs.length nc) xs) (hnc : xs.length ≤ nc) (hxl : xs.length ≤ 1000000) (L : Int) (E : Int × List (Int × Int)) (hl : LenIs n zs xs L E) :
    Calls Try.prog 5 #[.agg #[.slice fo (n + 1) fc, .slice uo zs.length tc, .slice wo zs.length wc], .slice no xs.length nc] w fun e w' => ∃ v, e = .returned (.tuple #[.int .u64 L, v]) ∧ IsTold w' E v ∧ Below w.heap.size w w' := by
  rcases hl with ⟨rfl, rfl, rfl⟩ | ⟨k, v, hk, hbad, hok, rfl, rfl⟩ | ⟨hn, k, v, u, ws, hv, hu, hno, hw, rfl, rfl⟩ | ⟨hn, h0, ws, hw, rfl, rfl⟩
  · refine length_early (fun w' v => IsTold w' (5, []) v) _ _ _ _ _ rfl w fun wx hb => (checkList_empty n zs fo uo wo fc tc wc wx hz (hI wx hb) no nc).mono ?_
    rintro e w' ⟨he, hb'⟩
    exact ⟨_, _, he, told_num w' (by omega), hb'⟩
  · refine length_early (fun w' v => IsTold w' (7, [(3, (k : Int))]) v) _ _ _ _ _ rfl w fun wx hb => (checkList_node n zs fo uo wo fc tc wc wx hz (hI wx hb) no nc xs (hx.keep hb) hxl k v hk hbad hok).mono ?_
    rintro e w' ⟨v, he, ht, hb'⟩
    obtain ⟨Ty, x, rfl⟩ := told_iface9 ht (by simp)
    exact ⟨Ty, x, he, ht, hb'⟩
  · cases xs with
    | nil => simp at hv
    | cons y r =>
      obtain ⟨b, off, rfl, _, _⟩ := hx.at (k := 0) (a := y) rfl
      have hkl := (List.getElem?_eq_some_iff.1 hu).1
      simp only [List.length_cons] at hkl hx hnc hxl ⊢
      refine (length_nodes n zs fo uo wo fc tc wc w hz (hI w (Below.refl _ _)) htc b off nc y r ws hx hnc (by omega) hn k (by omega) hw (Or.inr ⟨v, u, hv, hu, hno⟩)).mono ?_
      rintro e w' ⟨L', v', he, h, hb'⟩
      rcases h with ⟨h, _⟩ | ⟨_, rfl, h⟩
      · omega
      · exact ⟨v', he, h, hb'⟩
  · cases xs with
    | nil => exact absurd rfl h0
    | cons y r =>
      obtain ⟨b, off, rfl, _, _⟩ := hx.at (k := 0) (a := y) rfl
      simp only [List.length_cons] at hx hnc hxl ⊢
      refine (length_nodes n zs fo uo wo fc tc wc w hz (hI w (Below.refl _ _)) htc b off nc y r ws hx hnc (by omega) hn r.length (Nat.le_refl _) (by rw [show r.length + 1 = (y :: r).length from rfl, List.take_length]; exact hw) (Or.inl rfl)).mono ?_
      rintro e w' ⟨L', v', he, h, hb'⟩
      rcases h with ⟨_, rfl, h⟩ | ⟨h, _⟩
      · exact ⟨v', he, h, hb'⟩
      · omega
theorem nums_cons (x : Nat) (l : List Nat) : (nums (x :: l)).reverse = (nums l).reverse ++ [(x : Int)] := by
  unfold nums
  simp
theorem path_walk {zs : List (Int × Int × Int)} {s : Nat} : ∀ {P : List Nat} {d : Int}, PathTo zs s P d → ∃ ws, WalkIs zs (nums P).reverse ws ∧ ws.sum = d ∧ (nums P).reverse[0]? = some (s : Int)
  | [], d, h => h.elim
  | [x], d, ⟨hx, hd⟩ => by
    subst hx hd
    exact ⟨[], ⟨by simp [nums], by simp⟩, rfl, by simp [nums]⟩
  | x :: y :: r, d, ⟨w, e, hw, hd, h⟩ => by
    obtain ⟨ws, ⟨h1, h2⟩, h3, h4⟩ := path_walk h
    have hl : (nums (y :: r)).reverse.length = r.length + 1 := by simp [nums]
    have hlast : (nums (y :: r)).reverse[r.length]? = some (y : Int) := by
      rw [nums_cons, List.getElem?_append_right (by simp [nums]), List.length_reverse, nums_len]
      simp
    have e1 := nums_cons x (y :: r)
    generalize (nums (y :: r)).reverse = xs at *
    rw [e1]
    refine ⟨ws ++ [w], ⟨by simp; omega, fun i r' hr => ?_⟩, by rw [List.sum_append]; simp; omega, by rw [List.getElem?_append_left (by omega)]; exact h4⟩
    by_cases hi : i < ws.length
    · rw [List.getElem?_append_left hi] at hr
      obtain ⟨v, u, g1, g2, g3⟩ := h2 i r' hr
      exact ⟨v, u, by rw [List.getElem?_append_left (by omega)]; exact g1, by rw [List.getElem?_append_left (by omega)]; exact g2, g3⟩
    · rw [List.getElem?_append_right (by omega)] at hr
      have hi2 : i - ws.length = 0 := by
        rcases Nat.eq_zero_or_pos (i - ws.length) with h | h
        · exact h
        · rw [List.getElem?_eq_none (by simp; omega)] at hr; cases hr
      rw [hi2] at hr
      cases hr
      obtain rfl : i = r.length := by omega
      exact ⟨y, x, by rw [List.getElem?_append_left (by omega)]; exact hlast, by rw [List.getElem?_append_right (by omega), hl]; simp, hw⟩
/-- a path: what the reference asks of it. -/
structure PathIs (n : Nat) (zs : List (Int × Int × Int)) (s t : Nat) (d : Int) (xs ws : List Int) : Prop where
  walk : WalkIs zs xs ws
  sum : ws.sum = d
  first : xs[0]? = some (s : Int)
  last : xs[xs.length - 1]? = some (t : Int)
  nodup : xs.Nodup
  node : ∀ x ∈ xs, 0 ≤ x ∧ x < (n : Int)
  len : xs.length ≤ n + 1
theorem pathIs_of {n : Nat} {zs : List (Int × Int × Int)} {s t : Nat} {P : List Nat} {d : Int} (hz : Fine n zs) (hs : s < n) (h : PathTo zs s P d) (ht : P[0]? = some t) (hn : P.Nodup) (hl : P.length ≤ n + 1) : ∃ ws, PathIs n zs s t d (nums P).reverse ws := by
  obtain ⟨ws, h1, h2, h3⟩ := path_walk h
  have hnode : ∀ x ∈ (nums P).reverse, 0 ≤ x ∧ x < (n : Int) := fun x hx => by
    obtain ⟨i, hi⟩ := List.getElem?_of_mem hx
    rcases i with _ | i
    · rw [h3] at hi; cases hi; omega
    · have hl := (List.getElem?_eq_some_iff.1 hi).1
      have hw := h1.1
      obtain ⟨q, e⟩ : ∃ q, ws[i]? = some q := ⟨ws[i]'(by omega), List.getElem?_eq_getElem _⟩
      obtain ⟨v, u, g1, g2, g3⟩ := h1.2 i _ e
      rw [g2] at hi
      cases hi
      have := hz.ends _ g3
      exact ⟨this.2.2.1, this.2.2.2.1⟩
  have hnd : (nums P).reverse.Nodup := by
    rw [List.nodup_iff_pairwise_ne, List.pairwise_reverse]
    unfold nums
    rw [List.pairwise_map]
    exact (List.nodup_iff_pairwise_ne.1 hn).imp fun hne e => hne (Int.ofNat.inj e).symm
  refine ⟨ws, h1, h2, h3, ?_, hnd, hnode, by rw [List.length_reverse, nums_len]; exact hl⟩
  cases P with
  | nil => simp at ht
  | cons x l =>
    obtain rfl : x = t := by simpa using ht
    rw [nums_cons, List.length_append, List.getElem?_append_right (by simp)]
    simp
theorem below1 (w : World) (o : Obj) : Below w.heap.size w (w.alloc o) := (Below.refl _ w).alloc (Nat.le_refl _) _
theorem own_some {w : World} {B n : Nat} {v : Value} {xs : List Value} (h : w.ownsRow B 3 1 v n xs) (h0 : 0 < n) : ∃ g cap, v = .slice (some ⟨g, 0, none⟩) n cap ∧ n ≤ cap := by
  rcases h.2 with ⟨_, e⟩ | ⟨g, cap, cur, e, _, _, hle, _⟩
  · omega
  · exact ⟨g, cap, e, hle⟩
theorem own_cap {w : World} {B n c : Nat} {o : Option Addr} {xs : List Value} (h : w.ownsRow B 3 1 (.slice o n c) n xs) : n ≤ c := by
  rcases h.2 with ⟨e, h0⟩ | ⟨g, cap, cur, e, _, _, hle, _⟩
  · omega
  · injection e with _ _ e3
    omega
theorem told_nil {w : World} {v : Value} (h : IsTold w (0, []) v) : v = .nilIface := by
  rcases h with ⟨_, h⟩ | ⟨h, _⟩
  · exact h
  · exact absurd rfl h
section
variable {n : Nat} {zs : List (Int × Int × Int)}
/-- a path that is found, in memory. -/
theorem path_known (fo uo wo : Option Addr) (fc tc wc : Nat) (w : World) (hz : Fine n zs) (h : CsrIn w n zs fo uo wo fc tc wc) (s t : Nat) (hs : s < n) (ht : t < n) {D : List Int} {d : Int} (hD : IsDist n zs s D) (hd : D[t]? = some d) (hne : d ≠ 18446744073709551615) :
    Calls Try.prog 11 #[.agg #[.slice fo (n + 1) fc, .slice uo zs.length tc, .slice wo zs.length wc], .int .i64 s, .int .i64 t] w fun e w' => ∃ g q pc xs ws, e = .returned (.tuple #[.slice (some ⟨g, 0, none⟩) (q + 1) pc, .nilIface]) ∧ (xs.length = q + 1 ∧ q + 1 ≤ pc ∧ HasInts w' (.slice (some ⟨g, 0, none⟩) (q + 1) pc) xs ∧ PathIs n zs s t d xs ws) ∧ Below w.heap.size w w' := by
  refine (path_good n zs fo uo wo fc tc wc w hz h s t hs ht).mono ?_
  rintro e w' ⟨⟨D', hD', h⟩, hb⟩
  rw [hD'.unique hD] at h
  rcases h with ⟨h, _⟩ | ⟨P, d', po, pc, hd', _, hPT, hP0, ⟨hnd, hpl⟩, he, ho⟩
  · rw [hd] at h
    exact absurd (Option.some.inj h) hne
  · rw [hd] at hd'
    cases hd'
    obtain ⟨ws, hPI⟩ := pathIs_of hz hs hPT hP0 hnd hpl
    have hl : 0 < P.length := (List.getElem?_eq_some_iff.1 hP0).1
    obtain ⟨q, hq⟩ : ∃ q, P.length = q + 1 := ⟨P.length - 1, by omega⟩
    obtain ⟨g, cap, e2, hc⟩ := own_some ho hl
    injection e2 with e3 e4 e5
    subst e3
    subst e5
    rw [hq] at he ho hc
    have hxl : (nums P).reverse.length = q + 1 := by rw [List.length_reverse, nums_len, hq]
    have hI := ints_of_iown (l := (nums P).reverse) (by rw [hxl]; exact ho)
    exact ⟨g, q, pc, _, ws, he, ⟨hxl, hc, hI, hPI⟩, hb⟩
/-- the length of a walk, in memory. -/
theorem len_walk (fo uo wo : Option Addr) (fc tc wc : Nat) (w : World) (hz : Fine n zs) (hI : CsrIn w n zs fo uo wo fc tc wc) (htc : zs.length ≤ tc) (no : Option Addr) (nl nc : Nat) (xs ws : List Int) (hl : xs.length = nl) (hx : HasInts w (.slice no nl nc) xs) (hnc : nl ≤ nc) (hxl : nl ≤ 1000000) (hn : Nodes n xs) (h0 : xs ≠ []) (hw : WalkIs zs xs ws) :
    Calls Try.prog 5 #[.agg #[.slice fo (n + 1) fc, .slice uo zs.length tc, .slice wo zs.length wc], .slice no nl nc] w fun e w' => e = .returned (.tuple #[.int .u64 ws.sum, .nilIface]) ∧ Below w.heap.size w w' := by
  subst hl
  refine (length_fine n zs fo uo wo fc tc wc w hz (fun wx hx => hI.keep hx) htc no nc xs hx hnc hxl ws.sum (0, []) (Or.inr (Or.inr (Or.inr ⟨hn, h0, ws, hw, rfl, rfl⟩)))).mono ?_
  rintro e w' ⟨v, he, ht, hb⟩
  have := told_nil ht
  subst this
  exact ⟨he, hb⟩
/-- two walks that meet make one. -/
theorem walk_join {xs ws r us : List Int} {q : Nat} {l : Int} (h1 : WalkIs zs xs ws) (hq : xs.length = q + 1) (hl : xs[q]? = some l) (h2 : WalkIs zs (l :: r) us) : WalkIs zs (xs ++ r) (ws ++ us) := by
  have e1 := h1.1
  have e2 := h2.1
  simp only [List.length_cons] at e2
  refine ⟨by simp; omega, fun i x hi => ?_⟩
  by_cases hlt : i < ws.length
  · rw [List.getElem?_append_left hlt] at hi
    obtain ⟨v, u, g1, g2, g3⟩ := h1.2 i x hi
    exact ⟨v, u, by rw [List.getElem?_append_left (by omega)]; exact g1, by rw [List.getElem?_append_left (by omega)]; exact g2, g3⟩
  · rw [List.getElem?_append_right (by omega)] at hi
    obtain ⟨v, u, g1, g2, g3⟩ := h2.2 (i - ws.length) x hi
    refine ⟨v, u, ?_, ?_, g3⟩
    · by_cases hz : i = ws.length
      · rw [hz, Nat.sub_self] at g1
        rw [List.getElem?_append_left (by omega), hz, show ws.length = q by omega, hl]
        simpa using g1
      · rw [List.getElem?_append_right (by omega)]
        obtain ⟨j, hj⟩ : ∃ j, i - ws.length = j + 1 := ⟨i - ws.length - 1, by omega⟩
        rw [hj] at g1
        rw [show i - xs.length = j by omega]
        simpa using g1
    · rw [List.getElem?_append_right (by omega), show i + 1 - xs.length = i - ws.length by omega]
      simpa using g2
theorem walk_nonneg (hz : Fine n zs) {xs ws : List Int} (hw : WalkIs zs xs ws) : ∀ r ∈ ws, 0 ≤ r ∧ r ≤ 2147483647 := fun r hr => by
  obtain ⟨i, hi⟩ := List.getElem?_of_mem hr
  obtain ⟨v, u, _, _, h3⟩ := hw.2 i r hi
  exact ⟨(hz.ends _ h3).2.2.2.2.2.1, (hz.ends _ h3).2.2.2.2.2.2⟩
/-- a walk is no shorter than the distance. -/
theorem walk_far {s t q : Nat} {D xs ws : List Int} (hD : IsDist n zs s D) (ht : t < n) (hw : WalkIs zs xs ws) (hq : xs.length = q + 1) (h0 : xs[0]? = some (s : Int)) (hl : xs[q]? = some (t : Int)) : ∃ d, D[t]? = some d ∧ d ≠ 18446744073709551615 ∧ 0 ≤ d ∧ d ≤ 140737488355328 ∧ d ≤ ws.sum := by
  have hr := reach_walk hw h0 q _ hl
  rw [List.take_of_length_le (by have := hw.1; omega)] at hr
  obtain ⟨d, hd, g⟩ := hD.2 t ht
  rcases g with ⟨g1, g2, _, g4⟩ | ⟨_, g⟩
  · exact ⟨d, hd, by omega, g1, g2, g4 _ ⟨q, hr⟩⟩
  · exact absurd ⟨q, hr⟩ (g _)
end
end Go.Proofs.Ytefcmpdnlbpjpaa
