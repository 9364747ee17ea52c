/- What SearchTurned asks: beginnings of shortest paths, distances turned about, a search that settles all. What SearchTurned asks: the labels of a search that settles all, in memory; beginnings of a path, as the reference asks of them; right arrays are told right. -/
import Derived.Test.YtbaahjppofbdlaaGreatDoorSmM
import Derived.Test.YtbaahjppofbdlaaGreatDoorSaX
import Derived.Test.YtbaahjppofbdlaaGreatDoorSdC
namespace Go.Proofs.YtbaahjppofbdlaaGreatDoor
open Go.RowKit Go.Extern

section
variable {n : Nat} {zs xs : List (Int × Int × Int)}
theorem PathTo.reach {s : Nat} : ∀ {P : List Nat} {d : Int} {t : Nat}, PathTo zs s P d → P[0]? = some t → Reach zs (s : Int) (t : Int) d
  | [], _, _, h, _ => h.elim
  | [x], d, t, ⟨h1, h2⟩, ht => by
    simp at ht
    subst ht h1 h2
    exact ⟨0, rfl, rfl⟩
  | x :: y :: r, d, t, ⟨w, e, hw, hd, h⟩, ht => by
    simp at ht
    subst ht
    obtain ⟨k, hk⟩ := PathTo.reach h (t := y) rfl
    exact ⟨k + 1, (y : Int), e, w, hk, hw, hd⟩
/-- the beginnings of a shortest path are shortest paths. -/
theorem path_least {s : Nat} {D : List Int} (hz : Fine n zs) (hD : IsDist n zs s D) : ∀ (P : List Nat) (d : Int) (t : Nat), PathTo zs s P d → P[0]? = some t → D[t]? = some d → ∀ (k x : Nat), P[k]? = some x → ∃ e, PathTo zs s (P.drop k) e ∧ D[x]? = some e
  | [], _, _, h, _, _, _, _, _ => h.elim
  | [x], d, t, h, ht, hd, k, y, hk => by
    cases k with
    | zero =>
      simp at ht hk
      subst ht hk
      exact ⟨d, h, hd⟩
    | succ k => simp at hk
  | x :: y :: r, d, t, h, ht, hd, k, u, hk => by
    cases k with
    | zero =>
      simp at ht hk
      subst ht hk
      exact ⟨d, h, hd⟩
    | succ k =>
      obtain ⟨w, e, hw, he, h'⟩ := h
      simp at ht
      subst ht
      have hen := hz.ends _ hw
      simp only at hen
      have hy : y < n := by omega
      have hry := h'.reach (t := y) rfl
      obtain ⟨m, hm⟩ := hry
      obtain ⟨e', hE, g⟩ := hD.2 y hy
      have hee : e' = e := by
        rcases g with ⟨_, _, ⟨q, hq⟩, g4⟩ | ⟨_, g⟩
        · have l1 := g4 e ⟨m, hm⟩
          obtain ⟨d', hd', g'⟩ := hD.2 x (by omega)
          rw [hd] at hd'
          cases hd'
          have hre : Reach zs (s : Int) (x : Int) (e' + w) := ⟨q + 1, (y : Int), e', w, hq, hw, rfl⟩
          rcases g' with ⟨_, _, _, g5⟩ | ⟨_, g5⟩
          · have := g5 _ hre
            omega
          · exact absurd hre (g5 _)
        · exact absurd ⟨m, hm⟩ (g e)
      subst hee
      obtain ⟨f, h1, h2⟩ := path_least hz hD (y :: r) e' y h' rfl hE k u (by simpa using hk)
      exact ⟨f, by simpa using h1, h2⟩
/-- each arc has one that leads back and weighs no more. -/
theorem reach_turn {ys zs' : List (Int × Int × Int)} (h : ∀ a ∈ ys, ∃ r, (a.2.1, a.1, r) ∈ zs' ∧ r ≤ a.2.2) {s : Int} : ∀ (k : Nat) (v d : Int), ReachN ys s k v d → ∃ e, Reach zs' v s e ∧ e ≤ d
  | 0, v, d, ⟨h1, h2⟩ => ⟨0, ⟨0, h1.symm, rfl⟩, by omega⟩
  | k + 1, v, d, ⟨u, e, r, h1, h2, h3⟩ => by
    obtain ⟨f, ⟨m, hf⟩, hfe⟩ := reach_turn h k u e h1
    obtain ⟨r', hr, hrr⟩ := h _ h2
    simp only at hr hrr
    have hone : Reach zs' v u r' := ⟨1, v, 0, r', ⟨rfl, rfl⟩, hr, by omega⟩
    exact ⟨r' + f, reachN_comp hone m _ _ hf, by omega⟩
theorem norm_back (xs : List (Int × Int × Int)) : ∀ a ∈ normA xs, ∃ r, (a.2.1, a.1, r) ∈ normA (xs.map turn) ∧ r ≤ a.2.2 := fun a ha => by
  obtain ⟨h1, h2⟩ := norm_sub ha
  obtain ⟨b, hb, hs, hle⟩ := (normA_norm (xs.map turn)).all (turn a) (kept_mem.2 ⟨List.mem_map_of_mem h1, fun e => h2 e.symm⟩)
  obtain ⟨b0, b1, b2⟩ := b
  obtain ⟨s1, s2⟩ := hs
  unfold turn at s1 s2 hle
  simp only at s1 s2 hle
  subst s1 s2
  exact ⟨b2, hb, hle⟩
theorem norm_forth (xs : List (Int × Int × Int)) : ∀ a ∈ normA (xs.map turn), ∃ r, (a.2.1, a.1, r) ∈ normA xs ∧ r ≤ a.2.2 := fun a ha => by
  have h := norm_back (xs.map turn) a ha
  rw [turn_turn] at h
  exact h
/-- turned about, distances are those the other way. -/
theorem dist_turn {s v : Nat} {A M : List Int} (hA : IsDist n (normA xs) s A) (hM : IsDist n (normA (xs.map turn)) v M) (hs : s < n) (hv : v < n) : M[s]? = A[v]? := by
  obtain ⟨x, hx, g⟩ := hA.2 v hv
  obtain ⟨y, hy, g'⟩ := hM.2 s hs
  rw [hx, hy]
  congr 1
  rcases g with ⟨_, _, ⟨k, hk⟩, a⟩ | ⟨e1, a⟩
  · obtain ⟨e, he, hle⟩ := reach_turn (norm_back xs) k _ _ hk
    rcases g' with ⟨_, _, ⟨k', hk'⟩, b⟩ | ⟨_, b⟩
    · obtain ⟨e', he', hle'⟩ := reach_turn (norm_forth xs) k' _ _ hk'
      have l1 := b _ he
      have l2 := a _ he'
      omega
    · exact absurd he (b _)
  · rcases g' with ⟨_, _, ⟨k', hk'⟩, b⟩ | ⟨e2, _⟩
    · obtain ⟨e', he', _⟩ := reach_turn (norm_forth xs) k' _ _ hk'
      exact absurd he' (a _)
    · omega
/-- a search with such bounds settles all that it reaches. -/
theorem settle_all {hb se mo : Int} {s t : Nat} {S : FS} (hI : SInv n zs hb s t S) (ht : t ≤ n) (hn : n ≤ 65536) (hse : 65536 < se) (hmo : 140737488355328 ≤ mo) (h : RunEnd n se mo t S) : ∀ d : Nat, d < n → S.f (d : Int) = none := by
  rcases h with ⟨h, _⟩ | ⟨h, _⟩ | ⟨v, k, h1, h2, _⟩
  · omega
  · exact h
  · have hl := hI.lab v k (hI.opn v k h1.1 h1.2.1)
    have l1 := hl.2.1
    have l2 := hl.2.2.2.1
    omega
/-- and its labels are the distances. -/
theorem labels_dist {hb : Int} {s t : Nat} {S : FS} {D : List Int} (hz : Fine n zs) (hI : SInv n zs hb s t S) (ht : t ≤ n) (hbig : (n : Int) < hb) (hno : ∀ d : Nat, d < n → S.f (d : Int) = none) (hD : IsDist n zs s D) {v : Nat} (hv : v < n) : (S.vs[v]? = some none ∧ D[v]? = some 18446744073709551615) ∨ ∃ d, S.vs[v]? = some (some d) ∧ D[v]? = some d ∧ d ≠ 18446744073709551615 ∧ labT S (v : Int) = ((v : Int), d, S.hs v, true) := by
  have he := hD.unique (hI.dist hz ht hbig hno)
  obtain ⟨o, ho⟩ : ∃ o, S.vs[v]? = some o := ⟨S.vs[v]'(by rw [hI.lv]; exact hv), List.getElem?_eq_getElem _⟩
  have hDv : D[v]? = some (farOr S.vs[v]?) := by
    rw [he]
    simp [hv]
  cases o with
  | none =>
    refine Or.inl ⟨ho, ?_⟩
    rw [hDv, ho]
    rfl
  | some d =>
    refine Or.inr ⟨d, ho, ?_, ?_, ?_⟩
    · rw [hDv, ho]
      rfl
    · have hl := hI.lab v d ho
      have l1 := hl.2.1
      have l2 := hl.2.2.2.1
      have := hz.few
      omega
    · unfold labT labD
      rw [Int.toNat_natCast, ho, hno v hv]
      rfl
end
end Go.Proofs.YtbaahjppofbdlaaGreatDoor

namespace Go.Proofs.YtbaahjppofbdlaaGreatDoor
open Go.RowKit Go.Extern

section
variable {n : Nat} {zs : List (Int × Int × Int)}
theorem chk_fine (hz : Fine n zs) : ChkIs (firsts n zs) (tos zs) (weights zs) (0, []) := by
  refine Or.inr (Or.inr (Or.inr ⟨n, zs.length, ⟨firsts_len _ _, tos_len _, weights_len _, ?_, ?_⟩, hz.few, hz.short, Or.inr ⟨firstAt zs, ⟨fun v hv => firsts_at zs hv, fun v hv => firstAt_mono _ (by omega), hz.zero, hz.top⟩, Or.inr ⟨fun v i hv h1 h2 => ?_, rfl⟩⟩⟩))
  · rw [firsts_at zs (Nat.zero_le _), hz.zero]
    rfl
  · rw [firsts_at zs (Nat.le_refl _), hz.top]
  · have hi : i < zs.length := by have := firstAt_le zs (v + 1); omega
    have ha : zs[i]? = some zs[i] := List.getElem?_eq_getElem hi
    have hr := hz.row ha h1 h2
    obtain ⟨e1, e2, e3, e4, e5, e6, e7⟩ := hz.at ha
    have hp : ¬ (i : Int) = (firstAt zs v : Int) → (tos zs).getD (i - 1) 0 < zs[i].2.1 := fun hne => by
      obtain ⟨j, rfl⟩ : ∃ j, i = j + 1 := ⟨i - 1, by omega⟩
      have hb : zs[j]? = some zs[j] := List.getElem?_eq_getElem (by omega)
      have := hz.row_rise hb ha (by omega) h2
      rw [Nat.add_sub_cancel, List.getD_eq_getElem?_getD, tos_at hb]
      exact this
    unfold arcAt arcNo
    rw [show (tos zs).getD i 0 = zs[i].2.1 by rw [List.getD_eq_getElem?_getD, tos_at ha]; rfl, show (weights zs).getD i 0 = zs[i].2.2 by rw [List.getD_eq_getElem?_getD, weights_at ha]; rfl]
    rw [if_neg (by omega), if_neg (by
      rintro (h | ⟨h, h'⟩)
      · omega
      · have := hp h
        omega), if_neg (by omega)]
theorem docCheck_fine (hz : Fine n zs) (fo uo wo : Option Addr) (fc tc wc : Nat) (w : World) (h : CsrIn w n zs fo uo wo fc tc wc) : Calls Tryz.prog 85 #[.agg #[.slice fo (n + 1) fc, .slice uo zs.length tc, .slice wo zs.length wc]] w (DocAns w (0, [])) :=
  docCheck_any fo uo wo _ fc _ tc _ wc (firsts n zs) (tos zs) (weights zs) (0, []) w h.f h.t h.w (by rw [firsts_len]; have := hz.few; unfold maxLen; omega) (chk_fine hz)
theorem ints_take {w : World} {o : Option Addr} {l cap k : Nat} {xs : List Int} (h : HasInts w (.slice o l cap) xs) (hk : k ≤ xs.length) : HasInts w (.slice o k cap) (xs.take k) := by
  obtain ⟨ao, cp, e, hc⟩ := h
  injection e with e1 e2 e3
  subst e1
  subst e3
  refine ⟨_, _, by rw [List.length_take, Nat.min_eq_left hk], fun j a hj => ?_⟩
  rw [List.getElem?_take] at hj
  split at hj
  · exact hc j a hj
  · cases hj
/-- a beginning of a shortest path, as the reference asks of it. -/
theorem path_begin {s t : Nat} {D : List Int} {P : List Nat} {d : Int} (hz : Fine n zs) (hs : s < n) (hD : IsDist n zs s D) (h : PathTo zs s P d) (h0 : P[0]? = some t) (hd : D[t]? = some d) (hn : P.Nodup) (hl : P.length ≤ n + 1) {k : Nat} {x : Int} (hk : (nums P).reverse[k]? = some x) : ∃ (v : Nat) (e : Int) (ws : List Int), x = (v : Int) ∧ v < n ∧ D[v]? = some e ∧ PathIs n zs s v e ((nums P).reverse.take (k + 1)) ws := by
  have hlt : k < P.length := by
    have := (List.getElem?_eq_some_iff.1 hk).1
    rwa [List.length_reverse, nums_len] at this
  rw [List.getElem?_reverse (by rw [nums_len]; exact hlt), nums_len] at hk
  unfold nums at hk
  rw [List.getElem?_map] at hk
  obtain ⟨v, hv, rfl⟩ := Option.map_eq_some_iff.1 hk
  obtain ⟨e, h1, h2⟩ := path_least hz hD P d t h h0 hd (P.length - 1 - k) v hv
  have hdr : (P.drop (P.length - 1 - k))[0]? = some v := by rw [List.getElem?_drop]; simpa using hv
  obtain ⟨ws, hP⟩ := pathIs_of hz hs h1 hdr (List.Pairwise.sublist (List.drop_sublist _ _) hn) (by rw [List.length_drop]; omega)
  have e1 : (nums (P.drop (P.length - 1 - k))).reverse = (nums P).reverse.take (k + 1) := by
    unfold nums
    rw [List.take_reverse, List.map_drop, List.length_map, show P.length - (k + 1) = P.length - 1 - k by omega]
  rw [e1] at hP
  refine ⟨v, e, ws, rfl, ?_, h2, hP⟩
  have := (List.getElem?_eq_some_iff.1 h2).1
  rwa [hD.1] at this
/-- a path is no longer than there are nodes. -/
theorem path_short {s t : Nat} {P : List Nat} {d : Int} {ws : List Int} (hP : PathIs n zs s t d (nums P).reverse ws) (hn : P.Nodup) : P.length ≤ n := by
  refine Hp.pigeon n P hn fun x hx => ?_
  have := hP.node (x : Int) (by
    rw [List.mem_reverse]
    unfold nums
    exact List.mem_map.2 ⟨x, hx, rfl⟩)
  omega
/-- the labels of a search that settles all: where they stand, and what they are. -/
theorem labs_of {s : Nat} {S0 S : FS} {t : Nat} {D : List Int} {w : World} {lo : Option Addr} {lc B T : Nat} (hz : Fine n zs) (hs : s < n) (hst : Steps n zs 4611686018427387904 18446744073709551615 (S0.begin n s) t S) (hend : RunEnd n 4611686018427387904 18446744073709551615 t S) (hD : IsDist n zs s D) (how : w.ownsRow B T 4 (.slice lo (labN S).length lc) (labN S).length (labCs S (labN S))) :
    ∃ L : Nat → Nat, L 0 = 0 ∧ L n = (labN S).length ∧ (labN S).length ≤ n ∧ ∀ v : Nat, v < n → (D[v]? = some 18446744073709551615 ∧ L (v + 1) = L v) ∨ ∃ d, D[v]? = some d ∧ d ≠ 18446744073709551615 ∧ L (v + 1) = L v + 1 ∧ L v < (labN S).length ∧ ∀ wx, Below w.heap.size w wx → ∃ b off, lo = some ⟨b, off, none⟩ ∧ b < wx.heap.size ∧ wx.cell? ⟨b, off + L v * 4, none⟩ = some (.int .i64 (v : Int)) ∧ wx.cell? ⟨b, off + L v * 4 + 1, none⟩ = some (.int .u64 d) ∧ wx.cell? ⟨b, off + L v * 4 + 3, none⟩ = some (.bool true) := by
  have h0 : SInv n zs 4611686018427387904 s 0 (S0.begin n s) := start_inv hs _ rfl rfl
  have hI := steps_inv hz h0 t S hst
  have ht := steps_le hz h0 hst
  have hn := hz.few
  have hno := settle_all hI ht hn (by omega) (by omega) hend
  have hLI : LabIn w lo ((labN S).map (labT S)) := by
    rw [labCs_flat] at how
    exact labIn_of (l := (labN S).map (labT S)) (by rw [List.length_map]; exact how)
  refine ⟨fun v => (labP S v).length, rfl, by show (labP S n).length = _; rw [labP_all hI.lv], labN_len hI.lv, fun v hv => ?_⟩
  rcases labels_dist hz hI ht (by omega) hno hD hv with ⟨g1, g2⟩ | ⟨d, g1, g2, g3, g4⟩
  · exact Or.inl ⟨g2, by show (labP S (v + 1)).length = _; rw [labP_none g1]⟩
  · have hat := labN_at hI.lv g1
    refine Or.inr ⟨d, g2, g3, by show (labP S (v + 1)).length = _; rw [labP_some g1]; simp, (List.getElem?_eq_some_iff.1 hat).1, fun wx hx => ?_⟩
    obtain ⟨b, off, e, hl, c0, c1, _, c3⟩ := hLI.keep hx (labP S v).length (labT S (v : Int)) (by rw [List.getElem?_map, hat]; rfl)
    rw [g4] at c0 c1 c3
    exact ⟨b, off, e, hl, c0, c1, c3⟩
end
end Go.Proofs.YtbaahjppofbdlaaGreatDoor
