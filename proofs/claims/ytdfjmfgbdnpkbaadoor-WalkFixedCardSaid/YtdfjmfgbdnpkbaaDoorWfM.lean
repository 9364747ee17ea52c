/- What WalkFixed asks: the lengths of its lists, and the distances of its graph. -/
import Derived.Test.YtdfjmfgbdnpkbaaDoorWsS
import Derived.Test.YtdfjmfgbdnpkbaaDoorWkV
import Derived.Test.YtdfjmfgbdnpkbaaDoorSeen
namespace Go.Proofs.YtdfjmfgbdnpkbaaDoor
open Go.RowKit Go.Extern

theorem length_fine (n : Nat) (zs : List (Int × Int × Int)) (fo uo wo : Option Addr) (fc tc wc : Nat) (w : World) (hz : Fine n zs) (hI : ∀ wx, Below w.heap.size w wx → CsrIn wx n zs fo uo wo fc tc wc) (htc : zs.length ≤ tc) (no : Option Addr) (nc : Nat) (xs : List Int) (hx : HasInts w (.slice no xs.length nc) xs) (hnc : xs.length ≤ nc) (hxl : xs.length ≤ 1000000) (L : Int) (E : Int × List (Int × Int)) (hl : LenIs n zs xs L E) :
    Calls Tryd.prog 8 #[.agg #[.slice fo (n + 1) fc, .slice uo zs.length tc, .slice wo zs.length wc], .slice no xs.length nc] w fun e w' => ∃ v, e = .returned (.tuple #[.int .u64 L, v]) ∧ IsTold w' E v ∧ Below w.heap.size w w' := by
  rcases hl with ⟨rfl, rfl, rfl⟩ | ⟨k, v, hk, hbad, hok, rfl, rfl⟩ | ⟨hn, k, v, u, ws, hv, hu, hno, hw, rfl, rfl⟩ | ⟨hn, h0, ws, hw, rfl, rfl⟩
  · refine length_early (fun w' v => IsTold w' (5, []) v) _ _ _ _ _ rfl w fun wx hb => (checkList_empty n zs fo uo wo fc tc wc wx hz (hI wx hb) no nc).mono ?_
    rintro e w' ⟨he, hb'⟩
    exact ⟨_, _, he, told_num w' (by omega), hb'⟩
  · refine length_early (fun w' v => IsTold w' (7, [(3, (k : Int))]) v) _ _ _ _ _ rfl w fun wx hb => (checkList_node n zs fo uo wo fc tc wc wx hz (hI wx hb) no nc xs (hx.keep hb) hxl k v hk hbad hok).mono ?_
    rintro e w' ⟨v, he, ht, hb'⟩
    obtain ⟨Ty, x, rfl⟩ := told_iface9 ht (by simp)
    exact ⟨Ty, x, he, ht, hb'⟩
  · cases xs with
    | nil => simp at hv
    | cons y r =>
      obtain ⟨b, off, rfl, _, _⟩ := hx.at (k := 0) (a := y) rfl
      have hkl := (List.getElem?_eq_some_iff.1 hu).1
      simp only [List.length_cons] at hkl hx hnc hxl ⊢
      refine (length_nodes n zs fo uo wo fc tc wc w hz (hI w (Below.refl _ _)) htc b off nc y r ws hx hnc (by omega) hn k (by omega) hw (Or.inr ⟨v, u, hv, hu, hno⟩)).mono ?_
      rintro e w' ⟨L', v', he, h, hb'⟩
      rcases h with ⟨h, _⟩ | ⟨_, rfl, h⟩
      · omega
      · exact ⟨v', he, h, hb'⟩
  · cases xs with
    | nil => exact absurd rfl h0
    | cons y r =>
      obtain ⟨b, off, rfl, _, _⟩ := hx.at (k := 0) (a := y) rfl
      simp only [List.length_cons] at hx hnc hxl ⊢
      refine (length_nodes n zs fo uo wo fc tc wc w hz (hI w (Below.refl _ _)) htc b off nc y r ws hx hnc (by omega) hn r.length (Nat.le_refl _) (by rw [show r.length + 1 = (y :: r).length from rfl, List.take_length]; exact hw) (Or.inl rfl)).mono ?_
      rintro e w' ⟨L', v', he, h, hb'⟩
      rcases h with ⟨_, rfl, h⟩ | ⟨h, _⟩
      · exact ⟨v', he, h, hb'⟩
      · omega
/-- the same at the law's own arrays. -/
theorem len4 (fo uo wo : Option Addr) (fc tc wc : Nat) (w : World) (h : CsrIn w 4 Z4 fo uo wo fc tc wc) (htc : 4 ≤ tc) (no : Option Addr) (m nc : Nat) (xs : List Int) (hm : xs.length = m) (hx : HasInts w (.slice no m nc) xs) (hnc : m ≤ nc) (hxl : m ≤ 1000) (L : Int) (E : Int × List (Int × Int)) (hl : LenIs 4 Z4 xs L E) :
    Calls Tryd.prog 8 #[.agg #[.slice fo 5 fc, .slice uo 4 tc, .slice wo 4 wc], .slice no m nc] w fun e w' => ∃ v, e = .returned (.tuple #[.int .u64 L, v]) ∧ IsTold w' E v ∧ Below w.heap.size w w' := by
  subst hm
  exact length_fine 4 Z4 fo uo wo fc tc wc w fine4 (fun wx hb => h.keep hb) htc no nc xs hx hnc (by omega) L E hl
theorem walk_nil (zs : List (Int × Int × Int)) (x : Int) : WalkIs zs [x] [] := ⟨rfl, fun i r hr => by simp at hr⟩
theorem walk_one9 {zs : List (Int × Int × Int)} {x y r : Int} (h : (x, y, r) ∈ zs) : WalkIs zs [x, y] [r] := ⟨rfl, fun i r' hr => by
  rcases i with _ | i
  · cases hr; exact ⟨x, y, rfl, rfl, h⟩
  · simp at hr⟩
theorem walk_two9 {zs : List (Int × Int × Int)} {x y z r q : Int} (h : (x, y, r) ∈ zs) (g : (y, z, q) ∈ zs) : WalkIs zs [x, y, z] [r, q] := ⟨rfl, fun i r' hr => by
  rcases i with _ | _ | i
  · cases hr; exact ⟨x, y, rfl, rfl, h⟩
  · cases hr; exact ⟨y, z, rfl, rfl, g⟩
  · simp at hr⟩
theorem li1 : LenIs 4 Z4 [0, 1, 2] 5 (0, []) := Or.inr (Or.inr (Or.inr ⟨by unfold Nodes; decide, by simp, [4, 1], walk_two9 (by decide) (by decide), rfl, rfl⟩))
theorem li2 : LenIs 4 Z4 [3] 0 (0, []) := Or.inr (Or.inr (Or.inr ⟨by unfold Nodes; decide, by simp, [], walk_nil _ _, rfl, rfl⟩))
theorem li3 : LenIs 4 Z4 [] 0 (5, []) := Or.inl ⟨rfl, rfl, rfl⟩
theorem li4 : LenIs 4 Z4 [0, 4] 0 (7, [(3, 1)]) := Or.inr (Or.inl ⟨1, 4, rfl, by decide, fun j u hj hu => by
  rcases j with _ | j
  · cases hu; decide
  · omega, rfl, rfl⟩)
theorem li5 : LenIs 4 Z4 [0, 1, 0] 0 (16, [(4, 1)]) := Or.inr (Or.inr (Or.inl ⟨by unfold Nodes; decide, 1, 1, 0, [4], rfl, rfl, by unfold NoArc; decide, walk_one9 (by decide), rfl, rfl⟩))
theorem li6 : LenIs 4 Z4 [1, 1] 0 (16, [(4, 0)]) := Or.inr (Or.inr (Or.inl ⟨by unfold Nodes; decide, 0, 1, 1, [], rfl, rfl, by unfold NoArc; decide, walk_nil _ _, rfl, rfl⟩))
theorem li7 : LenIs 4 Z4 [0, 3, -1] 0 (7, [(3, 2)]) := Or.inr (Or.inl ⟨2, -1, rfl, by decide, fun j u hj hu => by
  rcases j with _ | _ | j
  · cases hu; decide
  · cases hu; decide
  · omega, rfl, rfl⟩)
theorem li8 : LenIs 4 Z4 [0, 2] 9 (0, []) := Or.inr (Or.inr (Or.inr ⟨by unfold Nodes; decide, by simp, [9], walk_one9 (by decide), rfl, rfl⟩))
/-- nothing is nearer. -/
theorem reach4 : ∀ (k : Nat) (v d : Int), ReachN Z4 0 k v d → (v = 0 ∧ 0 ≤ d) ∨ (v = 1 ∧ 4 ≤ d) ∨ (v = 2 ∧ 5 ≤ d)
  | 0, v, d, ⟨h1, h2⟩ => by omega
  | k + 1, v, d, ⟨u, e, r, h1, h2, h3⟩ => by
    have ih := reach4 k u e h1
    unfold Z4 at h2
    simp at h2
    omega
theorem dist4 : IsDist 4 Z4 0 [0, 4, 5, 18446744073709551615] := by
  have hm : ∀ (v e : Int), Reach Z4 0 v e → (v = 0 ∧ 0 ≤ e) ∨ (v = 1 ∧ 4 ≤ e) ∨ (v = 2 ∧ 5 ≤ e) := fun v e ⟨k, h⟩ => reach4 k v e h
  refine ⟨rfl, fun v hv => ?_⟩
  rcases v with _ | _ | _ | _ | v
  · exact ⟨0, rfl, Or.inl ⟨by omega, by omega, ⟨0, rfl, rfl⟩, fun e h => by have := hm _ _ h; omega⟩⟩
  · exact ⟨4, rfl, Or.inl ⟨by omega, by omega, ⟨1, 0, 0, 4, ⟨rfl, rfl⟩, by decide, rfl⟩, fun e h => by have := hm _ _ h; omega⟩⟩
  · exact ⟨5, rfl, Or.inl ⟨by omega, by omega, ⟨2, 1, 4, 1, ⟨0, 0, 4, ⟨rfl, rfl⟩, by decide, rfl⟩, by decide, rfl⟩, fun e h => by have := hm _ _ h; omega⟩⟩
  · exact ⟨_, rfl, Or.inr ⟨rfl, fun e h => by have := hm _ _ h; omega⟩⟩
  · omega
/-- Shortest at the law's own arrays. -/
theorem short4 (fo uo wo : Option Addr) (fc tc wc : Nat) (w : World) (h : CsrIn w 4 Z4 fo uo wo fc tc wc) (htc : 4 ≤ tc) (b q nc z : Nat) (xs : List Int) (hm : xs.length = q + 1) (hx : HasInts w (.slice (some ⟨b, 0, none⟩) (q + 1) nc) xs) (hnc : q + 1 ≤ nc) (hxl : q < 1000) (hs : xs[0]? = some 0) (hz : xs[q]? = some (z : Int)) (hzn : z < 4) (dx : Int) (hdx : [0, 4, 5, 18446744073709551615][z]? = some dx) (L : Int) (hl : LenIs 4 Z4 xs L (0, [])) :
    Calls Tryd.prog 13 #[.agg #[.slice fo 5 fc, .slice uo 4 tc, .slice wo 4 wc], .slice (some ⟨b, 0, none⟩) (q + 1) nc] w fun e w' => e = .returned (.tuple #[.bool (L == dx), .nilIface]) ∧ Below w.heap.size w w' := by
  refine shortest_walk 4 Z4 fo uo wo fc tc wc w fine4 h b 0 nc q 0 z xs hx (by omega) hs (by omega) hz hzn _ dist4 dx hdx L fun wx hb => ?_
  refine (len4 fo uo wo fc tc wc wx (h.keep hb) htc _ (q + 1) nc xs hm (hx.keep hb) hnc (by omega) L (0, []) hl).mono ?_
  rintro e w' ⟨v, he, ht, hb'⟩
  rcases ht with ⟨_, rfl⟩ | ⟨h, _⟩
  · exact ⟨he, hb'⟩
  · exact absurd rfl h
/-- no arrays at all. -/
theorem short0 (w : World) : Calls Tryd.prog 13 #[.agg #[.slice none 0 0, .slice none 0 0, .slice none 0 0], .slice none 0 0] w fun e w' => ∃ v, e = .returned (.tuple #[.bool false, v]) ∧ IsTold w' (14, []) v ∧ Below w.heap.size w w' := by
  refine shortest_err _ _ _ _ _ rfl w (14, []) fun wx _ => ?_
  have hnil : ∀ (wy : World), HasInts wy (.slice none 0 0) [] := fun wy => ⟨none, 0, rfl, fun j a hj => by simp at hj⟩
  have hC : ChkIs [] [] [] (14, []) := Or.inl ⟨rfl, rfl⟩
  refine (length_any none none none 0 0 0 [] [] [] (14, []) hC (Nat.zero_le _) wx ⟨hnil _, hnil _, hnil _⟩ (Nat.le_refl _) none 0 [] (hnil _) (Nat.le_refl _) (by simp) 0 (14, []) (Or.inl ⟨by simp, rfl, rfl⟩)).mono ?_
  rintro e w' ⟨v, he, ht, hb'⟩
  obtain ⟨Ty, x, rfl⟩ := told_iface9 ht (by simp)
  exact ⟨Ty, x, he, ht, hb'⟩
theorem places0 (w : World) : HasPlaces w (.slice none 0 0) [] := ⟨none, 0, rfl, fun j p hj => by simp at hj⟩
theorem places1 {w : World} {g : Nat} {k a : Int} (h : w.heap[g]? = some (.cells #[.int .i64 k, .int .i64 a] 63)) : HasPlaces w (.slice (some ⟨g, 0, none⟩) 1 1) [(k, a)] := by
  refine ⟨_, _, rfl, fun j p hj => ?_⟩
  rcases j with _ | j
  · cases hj
    exact ⟨_, _, rfl, lt_of_get h, by simp [World.cell?, h], by simp [World.cell?, h]⟩
  · simp at hj
theorem seen0 (c : Int) (v : Value) (w : World) (hv : IsTold w (c, []) v) (hg : HasType w) : Calls Tryd.prog 12 #[v, .agg #[.int .i64 c, .slice none 0 0]] w fun r w' => r = .returned (.bool true) ∧ Below w.heap.size w w' := seen_told (c, []) v none 0 w hv (places0 w) (Nat.zero_le _) hg
theorem seen1 (c k a : Int) (v : Value) (g : Nat) (w : World) (hv : IsTold w (c, [(k, a)]) v) (h : w.heap[g]? = some (.cells #[.int .i64 k, .int .i64 a] 63)) (hg : HasType w) : Calls Tryd.prog 12 #[v, .agg #[.int .i64 c, .slice (some ⟨g, 0, none⟩) 1 1]] w fun r w' => r = .returned (.bool true) ∧ Below w.heap.size w w' := seen_told (c, [(k, a)]) v (some ⟨g, 0, none⟩) 1 w hv (places1 h) (by unfold maxLen; simp) hg
theorem jErr_told9 (w : World) (n : Int) : IsTold w (n, []) (jErr n) := by
  by_cases h : n = 0
  · subst h; exact Or.inl ⟨rfl, rfl⟩
  · exact Or.inr ⟨h, by unfold jErr; rw [if_neg h]; rfl⟩
end Go.Proofs.YtdfjmfgbdnpkbaaDoor
