/- the graph of a hierarchy turned about: mathematics. -/
import Derived.Test.YtlhblkahnenjcaaDoorHtA
import Derived.Test.YtlhblkahnenjcaaDoorHrO
import Derived.Test.YtlhblkahnenjcaaDoorNoX
namespace Go.Proofs.YtlhblkahnenjcaaDoor.Hi
open Go.RowKit Go.Extern Go.Sort Go.Shelf

theorem sortE_perm (l : List (Int × Int × Int)) : (sortE l).Perm l := by
  have hps := pdq_sorts (ltOf endsI) swoE l.toArray 0 l.toArray.size (Lib.bitLen l.toArray.size) true true (Nat.zero_le _) (Nat.le_refl _) (Or.inl rfl)
  have hp := hps.1.2.2
  have hl := sortE_len l
  unfold sortE at hl ⊢
  generalize pdq (ltOf endsI) l.toArray 0 l.toArray.size (Lib.bitLen l.toArray.size) true true = d at *
  have e1 : (d.extract 0 l.toArray.size).toList = d.toList := by
    simp only [Array.length_toList] at hl
    simp only [Array.toList_extract, List.extract_eq_take_drop, List.drop_zero, Nat.sub_zero, List.size_toArray]
    exact List.take_of_length_le (by rw [Array.length_toList]; omega)
  rw [e1] at hp
  simpa using hp
theorem sortE_mem {l : List (Int × Int × Int)} {x : Int × Int × Int} : x ∈ sortE l ↔ x ∈ l := (sortE_perm l).mem_iff
theorem sortE_rise {l : List (Int × Int × Int)} (hd : l.Pairwise fun a b => ¬ sameA a b) : RiseA (sortE l) := by
  have hps := pdq_sorts (ltOf endsI) swoE l.toArray 0 l.toArray.size (Lib.bitLen l.toArray.size) true true (Nat.zero_le _) (Nat.le_refl _) (Or.inl rfl)
  have hs := hps.2
  have hd' : (sortE l).Pairwise fun a b => ¬ sameA a b := ((sortE_perm l).pairwise_iff (fun h g => h g.symm)).2 hd
  have hl := sortE_len l
  unfold RiseA
  rw [List.pairwise_iff_getElem] at hd' ⊢
  intro i j hi hj hij
  have h1 := hd' i j hi hj hij
  have h2 := hs i j (Nat.zero_le _) hij (by simp; omega)
  change ltOf endsI (pdq (ltOf endsI) l.toArray 0 l.toArray.size (Lib.bitLen l.toArray.size) true true)[j]! (pdq (ltOf endsI) l.toArray 0 l.toArray.size (Lib.bitLen l.toArray.size) true true)[i]! = false at h2
  have e : ∀ k (hk : k < (sortE l).length), (pdq (ltOf endsI) l.toArray 0 l.toArray.size (Lib.bitLen l.toArray.size) true true)[k]! = (sortE l)[k] := fun k hk => by
    unfold sortE at hk ⊢
    rw [getElem!_pos _ k (by simpa using hk), Array.getElem_toList]
  rw [e j hj, e i hi, ltE, decide_eq_false_iff_not] at h2
  refine (fun h => less_total (a := (sortE l)[j]) (b := (sortE l)[i]) h2 (fun g => h1 g.symm)) trivial
/-- the normal list of arcs turned about. -/
theorem sortE_turn {L L' : List (Int × Int × Int)} (hm : ∀ x, x ∈ L' ↔ turn x ∈ L) (hd : L'.Pairwise fun a b => ¬ sameA a b) (hl : ∀ a ∈ L, a.1 ≠ a.2.1) : sortE L' = normA ((sortE L).map turn) := by
  refine NormOf.unique (P := (· ∈ kept ((sortE L).map turn))) ?_ (normA_norm _)
  refine ⟨sortE_rise hd, fun x hx => ?_, fun y hy => ?_⟩
  · have h1 := (hm x).1 (sortE_mem.1 hx)
    rw [kept_mem, mem_turn, sortE_mem]
    exact ⟨h1, fun e => hl _ h1 (by simp [turn]; exact e.symm)⟩
  · have h1 := (kept_mem.1 hy).1
    rw [mem_turn, sortE_mem] at h1
    exact ⟨y, sortE_mem.2 ((hm y).2 h1), ⟨rfl, rfl⟩, Int.le_refl _⟩

theorem rk_mono {F : List Nat} {L : List Lk} (h : FOk F L.length) {i j : Nat} (hij : i ≤ j) {x y : Nat × Lk} (hx : (rkL F L)[i]? = some x) (hy : (rkL F L)[j]? = some y) : x.1 ≤ y.1 := by
  obtain ⟨_, a2, a3, a4⟩ := rkL_get h hx
  obtain ⟨_, b2, b3, b4⟩ := rkL_get h hy
  rcases Nat.lt_or_ge y.1 x.1 with hlt | hge
  · have := h.mono (a := y.1 + 1) (b := x.1) hlt (by omega)
    omega
  · exact hge
theorem sd_mono {h : Hr} (hu : FOk h.upF h.up.length) (hd : FOk h.dnF h.dn.length) {i j : Nat} (hij : i ≤ j) (hj : j < (stds h).length) (he : (sd (stds h) i).up = (sd (stds h) j).up) : (sd (stds h) i).rk ≤ (sd (stds h) j).rk := by
  have gi := sd_get (show i < (stds h).length by omega)
  have gj := sd_get hj
  rw [sd_up hu hd (by omega), sd_up hu hd hj] at he
  generalize sd (stds h) i = a at *
  generalize sd (stds h) j = b at *
  rcases Nat.lt_or_ge j h.up.length with h1 | h1
  · rw [stds_parts, List.getElem?_append_left (by rw [upsS_len hu]; omega), upsS, List.getElem?_map] at gi gj
    obtain ⟨x, hx, rfl⟩ := Option.map_eq_some_iff.1 gi
    obtain ⟨y, hy, rfl⟩ := Option.map_eq_some_iff.1 gj
    exact rk_mono hu hij hx hy
  · have h2 : h.up.length ≤ i := by
      rw [decide_eq_false (show ¬ j < h.up.length by omega), decide_eq_false_iff_not] at he
      omega
    rw [stds_parts, List.getElem?_append_right (by rw [upsS_len hu]; omega), upsS_len hu, dnsS, List.getElem?_map] at gi gj
    obtain ⟨x, hx, rfl⟩ := Option.map_eq_some_iff.1 gi
    obtain ⟨y, hy, rfl⟩ := Option.map_eq_some_iff.1 gj
    exact rk_mono hd (by omega) hx hy
/-- in a row the other ends rise. -/
theorem row_rise {h : Hr} (hc : chk h = (0, [])) {i : Nat} : ∀ j, i < j → j < (stds h).length → sameRow (sd (stds h) i) (sd (stds h) j) = true → (sd (stds h) i).lk.hd < (sd (stds h) j).lk.hd := by
  obtain ⟨k1, k2, k3, k4, k5, k6, k7, k8⟩ := chk_ok hc
  intro j
  induction j with
  | zero => intro h1; omega
  | succ j ih =>
    intro h1 h2 h3
    have f := (in_form hc h2).rise
    unfold rising at f
    have e0 : (j + 1 == 0) = false := by simp
    rw [e0, Bool.false_or, Nat.add_sub_cancel] at f
    have s3 : (sd (stds h) i).rk = (sd (stds h) (j + 1)).rk ∧ (sd (stds h) i).up = (sd (stds h) (j + 1)).up := by simpa [sameRow] using h3
    have mid : sameRow (sd (stds h) j) (sd (stds h) (j + 1)) = true ∧ (i < j → sameRow (sd (stds h) i) (sd (stds h) j) = true) := by
      have hu : (sd (stds h) j).up = (sd (stds h) (j + 1)).up := by
        have e := s3.2
        rw [sd_up k5 k6 (by omega), sd_up k5 k6 h2] at e ⊢
        by_cases a : j + 1 < h.up.length
        · simp [a]; omega
        · rw [decide_eq_false a, decide_eq_false_iff_not] at e
          rw [decide_eq_false a, decide_eq_false_iff_not]; omega
      have m1 := sd_mono k5 k6 (Nat.le_of_lt_succ h1) (by omega) (s3.2.trans hu.symm)
      have m2 : (sd (stds h) j).rk ≤ (sd (stds h) (j + 1)).rk := sd_mono k5 k6 (Nat.le_succ j) h2 hu
      refine ⟨?_, fun _ => ?_⟩
      · simp [sameRow, hu]; omega
      · simp [sameRow, s3.2, hu]; omega
    rw [mid.1] at f
    have f2 : (sd (stds h) j).lk.hd < (sd (stds h) (j + 1)).lk.hd := by simpa using f
    rcases Nat.lt_or_eq_of_le (Nat.le_of_lt_succ h1) with h4 | h4
    · exact Nat.lt_trans (ih h4 (by omega) (mid.2 h4)) f2
    · rw [h4]; exact f2
theorem stds_apart {h : Hr} (hc : chk h = (0, [])) : (stds h).Pairwise fun a b => ¬ (a.tail = b.tail ∧ a.head = b.head) := by
  rw [List.pairwise_iff_getElem]
  intro i j hi hj hij
  have ei : (stds h)[i] = sd (stds h) i := by have := sd_get hi; rw [List.getElem?_eq_getElem hi] at this; exact Option.some.inj this
  have ej : (stds h)[j] = sd (stds h) j := by have := sd_get hj; rw [List.getElem?_eq_getElem hj] at this; exact Option.some.inj this
  rw [ei, ej]
  rintro ⟨t, u⟩
  have a := (in_form hc hi).low
  have b := (in_form hc hj).low
  have key := row_rise hc j hij hj
  unfold Sd.tail at t
  unfold Sd.head at u
  unfold sameRow at key
  cases p : (sd (stds h) i).up <;> cases q : (sd (stds h) j).up <;> rw [p, q] at t u key <;> simp at t u key <;> omega
theorem node_apart {N : List Nat} (hc : cn N = (0, [])) {r s : Nat} (hr : r < N.length) (hs : s < N.length) (he : nth N r = nth N s) : r = s := by
  have key : ∀ r s, r < s → s < N.length → nth N r ≠ nth N s := fun r s h1 h2 e => by
    have f := (ferr_ok N.length 0).1 hc s (Nat.zero_le _) (by omega)
    unfold cnF at f
    split at f
    · simp at f
    · rename_i g
      apply g
      right
      rw [← e]
      have := nth_get (F := N) (i := r) (by omega)
      exact List.mem_of_getElem? (i := r) (by rw [List.getElem?_take, if_pos h1]; exact this)
  rcases Nat.lt_trichotomy r s with h1 | h1 | h1
  · exact absurd he (key r s h1 hs)
  · exact h1
  · exact absurd he.symm (key s r h1 hr)
theorem node_lt {N : List Nat} (hc : cn N = (0, [])) {r : Nat} (hr : r < N.length) : nth N r < N.length := by
  have f := (ferr_ok N.length 0).1 hc r (Nat.zero_le _) (by omega)
  unfold cnF at f
  split at f
  · simp at f
  · omega
theorem sd_mem {all : List Sd} {s : Sd} (hs : s ∈ all) : ∃ i, i < all.length ∧ sd all i = s := by
  obtain ⟨i, hi⟩ := List.mem_iff_getElem?.1 hs
  exact ⟨i, (List.getElem?_eq_some_iff.1 hi).1, sd_of hi⟩
theorem garcs_apart {h : Hr} (hc : chk h = (0, [])) : (gArcs h (stds h)).Pairwise fun a b => ¬ sameA a b := by
  obtain ⟨k1, k2, k3, k4, k5, k6, k7, k8⟩ := chk_ok hc
  unfold gArcs
  rw [List.pairwise_map]
  refine List.Pairwise.filter _ ?_
  refine (stds_apart hc).imp_of_mem ?_
  intro a b ha hb hn hs
  obtain ⟨p1, p2, _, _⟩ := form_mem k8 ha
  obtain ⟨q1, q2, _, _⟩ := form_mem k8 hb
  obtain ⟨s1, s2⟩ := hs
  simp only [arcOf] at s1 s2
  exact hn ⟨node_apart k7 p1 q1 (by omega), node_apart k7 p2 q2 (by omega)⟩
theorem garcs_good {h : Hr} (hc : chk h = (0, [])) {a : Int × Int × Int} (ha : a ∈ gArcs h (stds h)) : arcBad (h.node.length : Int) a = 0 ∧ a.1 ≠ a.2.1 := by
  obtain ⟨k1, k2, k3, k4, k5, k6, k7, k8⟩ := chk_ok hc
  unfold gArcs at ha
  obtain ⟨s, hs, rfl⟩ := List.mem_map.1 ha
  rw [List.mem_filter] at hs
  obtain ⟨p1, p2, p3, p4⟩ := form_mem k8 hs.1
  have n1 := node_lt k7 p1
  have n2 := node_lt k7 p2
  have n3 := p4 hs.2
  constructor
  · unfold arcBad arcOf
    simp only
    rw [if_neg (by omega), if_neg (by omega)]
  · simp only [arcOf]
    intro e
    exact p3 (node_apart k7 p1 p2 (by omega))
theorem garcs_turn {h : Hr} (hc : chk h = (0, [])) (x : Int × Int × Int) : x ∈ gArcs (turnH h) (stds (turnH h)) ↔ turn x ∈ gArcs h (stds h) := by
  obtain ⟨k1, k2, k3, k4, k5, k6, k7, k8⟩ := chk_ok hc
  have hpl : ∀ s ∈ stds h, (flipS h.up.length h.dn.length s).lk.plain = s.lk.plain := fun s hs => by
    obtain ⟨i, hi, rfl⟩ := sd_mem hs
    simp only [flipS]
    exact turnL_plain k2 (fun hp => (kids hc hi hp).2)
  have harc : ∀ s, arcOf (turnH h) (flipS h.up.length h.dn.length s) = turn (arcOf h s) := fun s => by
    unfold arcOf turn
    rw [flip_tail, flip_head]
    simp [turnH, flipS, turnL_wt]
  have hst : ∀ s', s' ∈ stds (turnH h) ↔ ∃ s ∈ stds h, flipS h.up.length h.dn.length s = s' := fun s' => by
    rw [stds_turn, stds_parts]
    simp only [List.mem_append, List.mem_map]
    constructor
    · rintro (⟨s, hs, e⟩ | ⟨s, hs, e⟩)
      · exact ⟨s, Or.inr hs, e⟩
      · exact ⟨s, Or.inl hs, e⟩
    · rintro ⟨s, hs | hs, e⟩
      · exact Or.inr ⟨s, hs, e⟩
      · exact Or.inl ⟨s, hs, e⟩
  have tt : ∀ a : Int × Int × Int, turn (turn a) = a := fun a => rfl
  unfold gArcs
  simp only [List.mem_map, List.mem_filter]
  constructor
  · rintro ⟨s', ⟨hs', hp⟩, rfl⟩
    obtain ⟨s, hs, rfl⟩ := (hst s').1 hs'
    rw [hpl s hs] at hp
    exact ⟨s, ⟨hs, hp⟩, by rw [harc, tt]⟩
  · rintro ⟨s, ⟨hs, hp⟩, e⟩
    exact ⟨flipS h.up.length h.dn.length s, ⟨(hst _).2 ⟨s, hs, rfl⟩, by rw [hpl s hs]; exact hp⟩, by rw [harc, e, tt]⟩
theorem graph_turn {h : Hr} (hc : chk h = (0, [])) : sortE (gArcs (turnH h) (stds (turnH h))) = normA ((sortE (gArcs h (stds h))).map turn) :=
  sortE_turn (garcs_turn hc) (garcs_apart (turn_chk hc)) (fun _ ha => (garcs_good hc ha).2)
theorem graph_right {h : Hr} (hc : chk h = (0, [])) (hl : (stds h).length ≤ 262144) : graphErr (h.node.length : Int) (sortE (gArcs h (stds h))) = (0, []) := by
  obtain ⟨k1, k2, k3, k4, k5, k6, k7, k8⟩ := chk_ok hc
  rw [good_iff]
  refine ⟨?_, fun a ha => (garcs_good hc (sortE_mem.1 ha)).1⟩
  rw [sortE_len]
  have := gArcs_len h (stds h)
  omega
end Go.Proofs.YtlhblkahnenjcaaDoor.Hi
