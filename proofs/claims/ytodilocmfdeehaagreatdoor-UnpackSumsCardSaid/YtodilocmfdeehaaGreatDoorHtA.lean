/- a hierarchy turned about: mathematics. -/
import Derived.Test.YtodilocmfdeehaaGreatDoorHsE
import Derived.Test.YtodilocmfdeehaaGreatDoorHrU
namespace Go.Proofs.YtodilocmfdeehaaGreatDoor.Hi

def turnH (h : Hr) : Hr := ⟨h.node, h.dnF, h.dn.map (turnL h.up.length h.dn.length), h.upF, h.up.map (turnL h.up.length h.dn.length)⟩
/-- a standing link turned about. -/
def flipS (p q : Nat) (s : Sd) : Sd := ⟨turnL p q s.lk, s.rk, !s.up⟩
theorem turnL_hd (p q : Nat) (l : Lk) : (turnL p q l).hd = l.hd := by unfold turnL; split <;> rfl
theorem turnL_wt (p q : Nat) (l : Lk) : (turnL p q l).wt = l.wt := by unfold turnL; split <;> rfl
theorem flip_tail (p q : Nat) (s : Sd) : (flipS p q s).tail = s.head := by
  unfold Sd.tail Sd.head flipS
  cases s.up <;> simp [turnL_hd]
theorem flip_head (p q : Nat) (s : Sd) : (flipS p q s).head = s.tail := by
  unfold Sd.tail Sd.head flipS
  cases s.up <;> simp [turnL_hd]
theorem rkL_turn (F : List Nat) (L : List Lk) (f : Lk → Lk) : rkL F (L.map f) = (rkL F L).map fun x => (x.1, f x.2) := by
  unfold rkL rkUpto
  rw [List.map_flatMap]
  congr 1
  funext r
  simp [rowOf, ← List.map_drop, ← List.map_take, Function.comp_def]
def upsS (h : Hr) : List Sd := (rkL h.upF h.up).map upS
def dnsS (h : Hr) : List Sd := (rkL h.dnF h.dn).map dnS
theorem stds_parts (h : Hr) : stds h = upsS h ++ dnsS h := rfl
theorem upsS_len {h : Hr} (hu : FOk h.upF h.up.length) : (upsS h).length = h.up.length := by unfold upsS; rw [List.length_map, rkL_len hu]
theorem dnsS_len {h : Hr} (hd : FOk h.dnF h.dn.length) : (dnsS h).length = h.dn.length := by unfold dnsS; rw [List.length_map, rkL_len hd]
theorem stds_turn (h : Hr) : stds (turnH h) = (dnsS h).map (flipS h.up.length h.dn.length) ++ (upsS h).map (flipS h.up.length h.dn.length) := by
  unfold stds turnH upsS dnsS
  simp only
  rw [rkL_turn, rkL_turn]
  simp [Function.comp_def, upS, dnS, flipS]
theorem stds_len_turn {h : Hr} (hu : FOk h.upF h.up.length) (hd : FOk h.dnF h.dn.length) : (stds (turnH h)).length = h.up.length + h.dn.length := by rw [stds_turn, List.length_append, List.length_map, List.length_map, upsS_len hu, dnsS_len hd]; omega
theorem sd_turn_lo {h : Hr} (hu : FOk h.upF h.up.length) (hd : FOk h.dnF h.dn.length) {i : Nat} (hi : i < h.dn.length) : sd (stds (turnH h)) i = flipS h.up.length h.dn.length (sd (stds h) (h.up.length + i)) := by
  apply sd_of
  rw [stds_turn, List.getElem?_append_left (by rw [List.length_map, dnsS_len hd]; exact hi), List.getElem?_map]
  have := sd_get (all := stds h) (i := h.up.length + i) (by rw [stds_len hu hd]; omega)
  generalize sd (stds h) (h.up.length + i) = s at *
  rw [stds_parts, List.getElem?_append_right (by rw [upsS_len hu]; omega), upsS_len hu, show h.up.length + i - h.up.length = i by omega] at this
  rw [this]
  rfl
theorem sd_turn_hi {h : Hr} (hu : FOk h.upF h.up.length) (hd : FOk h.dnF h.dn.length) {i : Nat} (hi : i < h.up.length) : sd (stds (turnH h)) (h.dn.length + i) = flipS h.up.length h.dn.length (sd (stds h) i) := by
  apply sd_of
  rw [stds_turn, List.getElem?_append_right (by rw [List.length_map, dnsS_len hd]; omega), List.length_map, dnsS_len hd, show h.dn.length + i - h.dn.length = i by omega, List.getElem?_map]
  have := sd_get (all := stds h) (i := i) (by rw [stds_len hu hd]; omega)
  generalize sd (stds h) i = s at *
  rw [stds_parts, List.getElem?_append_left (by rw [upsS_len hu]; omega)] at this
  rw [this]
  rfl
theorem sd_up {h : Hr} (hu : FOk h.upF h.up.length) (_hd : FOk h.dnF h.dn.length) {i : Nat} (hi : i < (stds h).length) : (sd (stds h) i).up = decide (i < h.up.length) := by
  have := sd_get hi
  generalize sd (stds h) i = s at *
  rcases Nat.lt_or_ge i h.up.length with h1 | h1
  · rw [stds_parts, List.getElem?_append_left (by rw [upsS_len hu]; omega)] at this
    unfold upsS at this
    rw [List.getElem?_map] at this
    obtain ⟨y, hy, rfl⟩ := Option.map_eq_some_iff.1 this
    simp [upS, h1]
  · rw [stds_parts, List.getElem?_append_right (by rw [upsS_len hu]; omega)] at this
    unfold dnsS at this
    rw [List.getElem?_map] at this
    obtain ⟨y, hy, rfl⟩ := Option.map_eq_some_iff.1 this
    simp [dnS]; omega
/-- what being well made says of a shortcut. -/
structure Made (s : Sd) (all : List Sd) : Prop where
  l1 : s.lk.lf < all.length
  l2 : s.lk.rt < all.length
  u1 : (sd all s.lk.lf).up = false
  u2 : (sd all s.lk.rt).up = true
  rk : (sd all s.lk.lf).rk = (sd all s.lk.rt).rk
  t1 : (sd all s.lk.lf).tail = s.tail
  t2 : (sd all s.lk.rt).head = s.head
  ws : max s.lk.wt (max (sd all s.lk.lf).lk.wt (sd all s.lk.rt).lk.wt) ≤ 140737488355328
  wt : s.lk.wt = (sd all s.lk.lf).lk.wt + (sd all s.lk.rt).lk.wt
theorem made_iff {s : Sd} {all : List Sd} (hp : s.lk.plain = false) : making s all = 0 ↔ Made s all := by
  unfold making
  rw [if_neg (by simp [hp])]
  constructor
  · intro h0
    split at h0
    · exact absurd h0 (by decide)
    · rename_i a1
      split at h0
      · exact absurd h0 (by decide)
      · rename_i a2
        split at h0
        · exact absurd h0 (by decide)
        · rename_i a3
          simp only [not_or, Bool.not_eq_true, Bool.not_eq_false, Decidable.not_not] at a1 a2 a3
          exact ⟨by omega, by omega, a2.1, a2.2.1, a2.2.2.1, a2.2.2.2.1, a2.2.2.2.2, by omega, a3.2⟩
  · intro m
    rw [if_neg (by have := m.l1; have := m.l2; omega), if_neg (by simp [m.u1, m.u2, m.rk, m.t1, m.t2]), if_neg (by have := m.ws; have := m.wt; omega)]
/-- a link of a hierarchy in form, by its number. -/
structure InForm (h : Hr) (i : Nat) : Prop where
  rise : rising (stds h) i = true
  low : (sd (stds h) i).rk < (sd (stds h) i).lk.hd
  high : (sd (stds h) i).lk.hd < h.node.length
  mak : making (sd (stds h) i) (stds h) = 0
theorem in_form {h : Hr} (hc : chk h = (0, [])) {i : Nat} (hi : i < (stds h).length) : InForm h i := by
  obtain ⟨k1, k2, k3, k4, k5, k6, k7, k8⟩ := chk_ok hc
  obtain ⟨a, b, c, d⟩ := form_at k8 hi
  exact ⟨a, b, c, d⟩
theorem chk_of {h : Hr} (k1 : h.node.length ≤ 65536) (k2 : h.up.length + h.dn.length ≤ 1048576) (k3 : h.upF.length = h.node.length + 1) (k4 : h.dnF.length = h.node.length + 1) (k5 : FOk h.upF h.up.length) (k6 : FOk h.dnF h.dn.length) (k7 : cn h.node = (0, [])) (k8 : ∀ i, i < (stds h).length → InForm h i) : chk h = (0, []) := by
  unfold chk
  rw [if_neg (by omega), if_neg (by omega), orE_ok, orE_ok, orE_ok]
  refine ⟨(cf_ok k5.len).2 k5, (cf_ok k6.len).2 k6, k7, ?_⟩
  unfold cl
  rw [ferr_ok]
  intro j _ hj
  have f := k8 j (by omega)
  unfold lerr
  rw [if_neg (by have := f.low; have := f.high; rw [f.rise]; simp; omega)]
  exact f.mak
/-- what is known of a shortcut's children's numbers. -/
theorem kids {h : Hr} (hc : chk h = (0, [])) {i : Nat} (hi : i < (stds h).length) (hp : (sd (stds h) i).lk.plain = false) : Made (sd (stds h) i) (stds h) ∧ h.up.length ≤ (sd (stds h) i).lk.lf ∧ (sd (stds h) i).lk.lf < h.up.length + h.dn.length ∧ (sd (stds h) i).lk.rt < h.up.length := by
  obtain ⟨k1, k2, k3, k4, k5, k6, k7, k8⟩ := chk_ok hc
  have m := (made_iff hp).1 (in_form hc hi).mak
  have e1 := sd_up k5 k6 m.l1
  have e2 := sd_up k5 k6 m.l2
  rw [m.u1] at e1
  rw [m.u2] at e2
  have l1 := m.l1
  rw [stds_len k5 k6] at l1
  refine ⟨m, ?_, l1, ?_⟩
  · have := of_decide_eq_false e1.symm; omega
  · exact of_decide_eq_true e2.symm
/-- a link of the lists is a standing one. -/
theorem up_stands {h : Hr} (hu : FOk h.upF h.up.length) (hd : FOk h.dnF h.dn.length) {i : Nat} {l : Lk} (hl : h.up[i]? = some l) : (sd (stds h) i).lk = l ∧ i < (stds h).length := by
  have hi := (List.getElem?_eq_some_iff.1 hl).1
  have h1 : i < (stds h).length := by rw [stds_len hu hd]; omega
  have := stds_lk hu hd h1
  unfold linkAt at this
  rw [List.getD_eq_getElem?_getD, List.getElem?_append_left hi, hl] at this
  exact ⟨this.symm, h1⟩
theorem dn_stands {h : Hr} (hu : FOk h.upF h.up.length) (hd : FOk h.dnF h.dn.length) {i : Nat} {l : Lk} (hl : h.dn[i]? = some l) : (sd (stds h) (h.up.length + i)).lk = l ∧ h.up.length + i < (stds h).length := by
  have hi := (List.getElem?_eq_some_iff.1 hl).1
  have h1 : h.up.length + i < (stds h).length := by rw [stds_len hu hd]; omega
  have := stds_lk hu hd h1
  unfold linkAt at this
  rw [List.getD_eq_getElem?_getD, List.getElem?_append_right (by omega), show h.up.length + i - h.up.length = i by omega, hl] at this
  exact ⟨this.symm, h1⟩
/-- a link of either list: its children's numbers. -/
theorem kids_mem {h : Hr} (hc : chk h = (0, [])) {l : Lk} (hl : l ∈ h.up ∨ l ∈ h.dn) (hp : l.plain = false) : h.up.length ≤ l.lf ∧ l.lf < h.up.length + h.dn.length ∧ l.rt < h.up.length := by
  obtain ⟨k1, k2, k3, k4, k5, k6, k7, k8⟩ := chk_ok hc
  rcases hl with hl | hl
  · obtain ⟨i, hi⟩ := List.mem_iff_getElem?.1 hl
    obtain ⟨e, hh⟩ := up_stands k5 k6 hi
    have := (kids hc hh (by rw [e]; exact hp)).2
    rw [e] at this
    exact this
  · obtain ⟨i, hi⟩ := List.mem_iff_getElem?.1 hl
    obtain ⟨e, hh⟩ := dn_stands k5 k6 hi
    have := (kids hc hh (by rw [e]; exact hp)).2
    rw [e] at this
    exact this
theorem turnL_plain {p q : Nat} {l : Lk} (hpq : p + q ≤ 1048576) (hk : l.plain = false → p ≤ l.lf ∧ l.lf < p + q ∧ l.rt < p) : (turnL p q l).plain = l.plain := by
  unfold turnL
  cases hp : l.plain
  · obtain ⟨a, b, c⟩ := hk hp
    rw [if_neg (by simp)]
    simp [Lk.plain, noLink]
    intro _
    omega
  · rw [if_pos rfl, hp]
theorem turnL_twice {p q : Nat} {l : Lk} (hpq : p + q ≤ 1048576) (hk : l.plain = false → p ≤ l.lf ∧ l.lf < p + q ∧ l.rt < p) : turnL q p (turnL p q l) = l := by
  have e := turnL_plain hpq hk
  cases hp : l.plain
  · obtain ⟨a, b, c⟩ := hk hp
    have e' : turnL p q l = ⟨l.hd, l.wt, q + l.rt, l.lf - p⟩ := by unfold turnL; rw [if_neg (by simp [hp])]
    rw [e'] at e ⊢
    unfold turnL
    rw [if_neg (by rw [e, hp]; simp)]
    obtain ⟨x, y, z, u⟩ := l
    simp at *
    omega
  · have e' : turnL p q l = l := by unfold turnL; rw [if_pos hp]
    rw [e']
    unfold turnL
    rw [if_pos hp]
theorem turnL_ok {p q : Nat} {l : Lk} (hpq : p + q ≤ 1048576) (hk : l.plain = false → p ≤ l.lf ∧ l.lf < p + q ∧ l.rt < p) (ho : l.ok) : (turnL p q l).ok := by
  unfold turnL
  cases hp : l.plain
  · obtain ⟨a, b, c⟩ := hk hp
    rw [if_neg (by simp)]
    exact ⟨ho.1, ho.2.1, by show q + l.rt < _; omega, by show l.lf - p < _; omega⟩
  · rw [if_pos rfl]; exact ho
theorem turn_twice {h : Hr} (hc : chk h = (0, [])) : turnH (turnH h) = h := by
  obtain ⟨k1, k2, k3, k4, k5, k6, k7, k8⟩ := chk_ok hc
  unfold turnH
  simp only [List.length_map, List.map_map]
  have e : ∀ L : List Lk, (∀ l ∈ L, l ∈ h.up ∨ l ∈ h.dn) → L.map (turnL h.dn.length h.up.length ∘ turnL h.up.length h.dn.length) = L := fun L hL => by
    conv => rhs; rw [← List.map_id L]
    refine List.map_congr_left fun l hl => ?_
    exact turnL_twice k2 (fun hp => kids_mem hc (hL l hl) hp)
  rw [e _ (fun l hl => Or.inl hl), e _ (fun l hl => Or.inr hl)]
theorem same_flip (p q : Nat) (a b : Sd) : sameRow (flipS p q a) (flipS p q b) = sameRow a b := by
  unfold sameRow flipS
  simp only
  cases a.up <;> cases b.up <;> simp
theorem turn_chk {h : Hr} (hc : chk h = (0, [])) : chk (turnH h) = (0, []) := by
  obtain ⟨k1, k2, k3, k4, k5, k6, k7, k8⟩ := chk_ok hc
  have hlen := stds_len k5 k6
  refine chk_of k1 (by simp [turnH]; omega) k4 k3 (by simpa [turnH] using k6) (by simpa [turnH] using k5) k7 fun i hi => ?_
  rw [stds_len_turn k5 k6] at hi
  -- the link that this one was
  have key : ∀ j, j < (stds h).length → sd (stds (turnH h)) i = flipS h.up.length h.dn.length (sd (stds h) j) → rising (stds (turnH h)) i = true → InForm (turnH h) i := fun j hj e hr => by
    have f := in_form hc hj
    refine ⟨hr, ?_, ?_, ?_⟩
    · rw [e]; simp [flipS, turnL_hd]; exact f.low
    · rw [e]; simp [flipS, turnL_hd, turnH]; exact f.high
    · rw [e]
      cases hp : (sd (stds h) j).lk.plain
      · obtain ⟨m, b1, b2, b3⟩ := kids hc hj hp
        have hpl : (turnL h.up.length h.dn.length (sd (stds h) j).lk).plain = false := by rw [turnL_plain k2 (fun _ => ⟨b1, b2, b3⟩)]; exact hp
        rw [made_iff (by simpa [flipS] using hpl)]
        have el : (flipS h.up.length h.dn.length (sd (stds h) j)).lk = ⟨(sd (stds h) j).lk.hd, (sd (stds h) j).lk.wt, h.dn.length + (sd (stds h) j).lk.rt, (sd (stds h) j).lk.lf - h.up.length⟩ := by simp only [flipS]; rw [turnL, if_neg (by simp [hp])]
        have s1 : sd (stds (turnH h)) (h.dn.length + (sd (stds h) j).lk.rt) = flipS h.up.length h.dn.length (sd (stds h) (sd (stds h) j).lk.rt) := sd_turn_hi k5 k6 b3
        have s2 : sd (stds (turnH h)) ((sd (stds h) j).lk.lf - h.up.length) = flipS h.up.length h.dn.length (sd (stds h) (sd (stds h) j).lk.lf) := by
          rw [sd_turn_lo k5 k6 (by omega), show h.up.length + ((sd (stds h) j).lk.lf - h.up.length) = (sd (stds h) j).lk.lf by omega]
        have hw := m.ws
        have ht := m.wt
        refine ⟨?_, ?_, ?_, ?_, ?_, ?_, ?_, ?_, ?_⟩
        · rw [el, stds_len_turn k5 k6]; simp; omega
        · rw [el, stds_len_turn k5 k6]; simp; omega
        · rw [el, s1]; simp [flipS, m.u2]
        · rw [el, s2]; simp [flipS, m.u1]
        · rw [el, s1, s2]; simp [flipS, m.rk]
        · rw [el, s1, flip_tail, flip_tail, m.t2]
        · rw [el, s2, flip_head, flip_head, m.t1]
        · rw [el, s1, s2]; simp only [flipS, turnL_wt]; omega
        · rw [el, s1, s2]; simp only [flipS, turnL_wt]; omega
      · have hpl : (flipS h.up.length h.dn.length (sd (stds h) j)).lk.plain = true := by simp only [flipS]; rw [turnL, if_pos hp]; exact hp
        have g := f.mak
        unfold making at g ⊢
        rw [if_pos hp] at g
        rw [if_pos hpl]
        simp only [flipS, turnL_wt]
        exact g
  rcases Nat.lt_or_ge i h.dn.length with h1 | h1
  · refine key (h.up.length + i) (by omega) (sd_turn_lo k5 k6 h1) ?_
    have f := (in_form hc (i := h.up.length + i) (by omega)).rise
    unfold rising at f ⊢
    by_cases h0 : i = 0
    · simp [h0]
    · have e1 : h.up.length + i - 1 = h.up.length + (i - 1) := by omega
      rw [sd_turn_lo k5 k6 h1, sd_turn_lo k5 k6 (show i - 1 < h.dn.length by omega), same_flip]
      rw [e1] at f
      have e2 : (h.up.length + i == 0) = false := by simp; omega
      rw [e2, Bool.false_or] at f
      simp only [flipS, turnL_hd]
      rw [Bool.or_assoc, f, Bool.or_true]
  · have e0 : i = h.dn.length + (i - h.dn.length) := by omega
    refine key (i - h.dn.length) (by omega) (by conv => lhs; rw [e0]
                                                exact sd_turn_hi k5 k6 (by omega)) ?_
    have f := (in_form hc (i := i - h.dn.length) (by omega)).rise
    unfold rising at f ⊢
    by_cases h0 : i = 0
    · simp [h0]
    · have s1 : sd (stds (turnH h)) i = flipS h.up.length h.dn.length (sd (stds h) (i - h.dn.length)) := by
        conv => lhs; rw [e0]
        exact sd_turn_hi k5 k6 (by omega)
      by_cases h2 : i = h.dn.length
      · have u1 := sd_up (h := turnH h) (by simpa [turnH] using k6) (by simpa [turnH] using k5) (i := i) (by rw [stds_len_turn k5 k6]; exact hi)
        have u2 := sd_up (h := turnH h) (by simpa [turnH] using k6) (by simpa [turnH] using k5) (i := i - 1) (by rw [stds_len_turn k5 k6]; omega)
        have v1 : (sd (stds (turnH h)) i).up = false := by rw [u1]; simp [turnH]; omega
        have v2 : (sd (stds (turnH h)) (i - 1)).up = true := by rw [u2]; simp [turnH]; omega
        have : sameRow (sd (stds (turnH h)) (i - 1)) (sd (stds (turnH h)) i) = false := by unfold sameRow; rw [v1, v2]; simp
        rw [this]
        simp
      · have s2 : sd (stds (turnH h)) (i - 1) = flipS h.up.length h.dn.length (sd (stds h) (i - h.dn.length - 1)) := by
          conv => lhs; rw [show i - 1 = h.dn.length + (i - h.dn.length - 1) by omega]
          exact sd_turn_hi k5 k6 (by omega)
        rw [s1, s2, same_flip]
        have e2 : (i - h.dn.length == 0) = false := by simp; omega
        rw [e2, Bool.false_or] at f
        simp only [flipS, turnL_hd]
        rw [Bool.or_assoc, f, Bool.or_true]
end Go.Proofs.YtodilocmfdeehaaGreatDoor.Hi
